/- Texts joined: Prod, ProdAny. -/
import Derived.Test.YtgnbkepdbdgkdaaGreatDoorJq21
import Derived.Test.YtgnbkepdbdgkdaaGreatDoorJq22
import Derived.Test.YtgnbkepdbdgkdaaGreatDoorJq25
import Derived.Test.YtgnbkepdbdgkdaaGreatDoorJq08
import Derived.Test.YtgnbkepdbdgkdaaGreatDoorJq06
import Derived.StillTailTactics
import Derived.Deep.RegionHeld3
import Derived.Deep.DeepCutAuto
import Derived.Test.YtgnbkepdbdgkdaaGreatDoorJq29
import Derived.Test.YtgnbkepdbdgkdaaGreatDoorJq27
/- system.Product. -/
namespace Go.Proofs.YtgnbkepdbdgkdaaGreatDoor
open Go.RowKit Go.Sort Pl

/-! ### numbering.Of -/
set_option maxRecDepth 100000 in
set_option maxHeartbeats 2000000 in
theorem ofP_any {w : World} {g : Nat} (h0 : w.cell? ⟨g, 0, none⟩ = some (.int .i64 0)) (h1 : w.cell? ⟨g, 1, none⟩ = some (.int .i64 0)) :
    Calls Tryz.prog 55 #[.slice (some ⟨g, 0, none⟩) 1 1] w fun e w' => ∃ nb M sv, e = .returned (.pointer (some ⟨nb, 0, none⟩)) ∧ w.heap.size ≤ nb ∧ w.heap.size ≤ M ∧ NpAt w' w.heap.size nb M sv [(0, 0)] ∧ Below w.heap.size w w' := by
  have hmm := @run_makeMap Tryz.prog
  have HN : Hid (NpAt ((w.alloc (.map #[] 0)).alloc (.cells #[.slice none 0 0, .map (some w.heap.size)] 111)) w.heap.size (w.heap.size + 1) w.heap.size (.slice none 0 0) []) := Lib.hid
    ⟨by simpa using Whole.new (w.alloc (.map #[] 0)) 111 #[.slice none 0 0, .map (some w.heap.size)],
     tab_kept (heap_alloc_new w _) (World.grownBy_alloc _ _ none) (by simp), World.ownsRow_nil _ _ _ _⟩
  have hb1 := ((Below.refl w.heap.size w).alloc (Nat.le_refl _) (.map #[] 0)).alloc (by simp) (.cells #[.slice none 0 0, .map (some w.heap.size)] 111)
  obtain ⟨M, HM⟩ : ∃ z, Hid (w.heap.size = z) := ⟨_, Lib.hid rfl⟩
  obtain ⟨nb, HNb⟩ : ∃ z, Hid (w.heap.size + 1 = z) := ⟨_, Lib.hid rfl⟩
  obtain ⟨w1, HW1⟩ : ∃ z, Hid ((w.alloc (.map #[] 0)).alloc (.cells #[.slice none 0 0, .map (some w.heap.size)] 111) = z) := ⟨_, Lib.hid rfl⟩
  rw [HW1.out] at HN hb1
  have HB1 := Lib.hid hb1
  have HN1 : Hid (NpAt w1 w.heap.size nb M (.slice none 0 0) []) := Lib.hid (by rw [← HNb.out, ← HM.out]; exact HN.out)
  have HMl : Hid (w.heap.size ≤ M ∧ w.heap.size ≤ nb) := Lib.hid ⟨by rw [HM.out]; exact Nat.le_refl _, by rw [← HNb.out]; omega⟩
  clear hb1 HN
  go_enter Tryz.func55, Tryz.ntmps55
  go_upto_region 2 with (fail)
  rw [HW1.out, HNb.out]
  go_upto_region 3 with (fail)
  go_loopw [5, 11] (fun _ q wr => ∃ (j : Nat) (sv : Value), q = .int .i64 j ∧ j ≤ 1 ∧ Hid (NpAt wr w.heap.size nb M sv (if j = 0 then [] else [(0, 0)])) ∧ Hid (Below w.heap.size w wr)) (fun _ q _ => 1 - (intOf q).toNat)
  case atStart => exact ⟨0, _, rfl, by omega, HN1, HB1⟩
  case round =>
    as_aux_lemma =>
    obtain ⟨w3, hw3⟩ : ∃ z, z = wr := ⟨_, rfl⟩
    subst hw3
    obtain ⟨j, sv, rfl, hj, hN, hB⟩ := hrel
    by_cases hlt : j < 1
    · obtain rfl : j = 0 := by omega
      rw [if_pos rfl] at hN
      have d0 := (hB.out.cell (lt_of_cell h0)).trans h0
      have d1 := (hB.out.cell (lt_of_cell h1)).trans h1
      have hal := (Below.refl _ w3).alloc (Nat.le_refl _) (.cells #[.int .i64 0, .int .i64 0] 48)
      have hX := Whole.new w3 48 #[.int .i64 0, .int .i64 0]
      have hN4 := hN.out.alloc (.cells #[.int .i64 0, .int .i64 0] 48)
      have hB4 := hB.out.trans (hal.mono hB.out.size)
      obtain ⟨w4, HW4⟩ : ∃ z, Hid (w3.alloc (.cells #[.int .i64 0, .int .i64 0] 48) = z) := ⟨_, Lib.hid rfl⟩
      obtain ⟨e4, HE4⟩ : ∃ z, Hid (w3.heap.size = z) := ⟨_, Lib.hid rfl⟩
      rw [HW4.out] at hX hN4 hB4
      rw [HE4.out] at hX
      have k0 := hX.cell 0
      have k1 := hX.cell 1
      simp only [List.getElem?_toArray, List.getElem?_cons_succ, List.getElem?_cons_zero] at k0 k1
      have HN4 := Lib.hid hN4
      have HB4 := Lib.hid hB4
      clear hal hX hN4 hB4
      go_upto_region 5 with (fail)
      rw [HW4.out, HE4.out]
      clear d0 d1
      go_wp2_with fail
      refine (numberP_any HN4.out HB4.out.size (by simp) 0 0).mono ?_
      rintro e w5 ⟨s2, rfl, hN5, hK5, hat5⟩
      have HN5 : Hid (NpAt w5 w.heap.size nb M s2 [(0, 0)]) := Lib.hid hN5
      have HB5 : Hid (Below w.heap.size w w5) := Lib.hid (HB4.out.trans (hK5.below HB4.out.size (fun k hk => by
        rcases hk with rfl | rfl | hk
        · exact HMl.out.2
        · exact HMl.out.1
        · exact own_ge HN4.out.lst k hk.symm)))
      clear hN5 hK5 hat5
      go_wp2
      go_roundw
      case rel => exact ⟨1, s2, by go_num, by omega, by simpa using HN5, HB5⟩
      case measure => simp [intOf]
    · obtain rfl : j = 1 := by omega
      rw [if_neg (by omega)] at hN
      go_wp2
      go_ret
      exact ⟨nb, M, sv, rfl, HMl.out.2, HMl.out.1, hN.out, hB.out⟩

/-! ### the product's box, its rows, the list of pairs -/
def FansA (w : World) (g : Nat) (k : Nat) (ss : List (List Edg)) : Prop := ∀ x, x < k → FanAt w g (x * 8) (stAt ss x)
theorem FansA.below {w w' : World} {g k : Nat} {ss : List (List Edg)} (h : FansA w g k ss) (hb : Below w.heap.size w w') : FansA w' g k ss := fun x hx => (h x hx).below hb
theorem fansA_any {w : World} {a : Option Addr} {n c : Nat} {b : Option Addr} {k d : Nat} {m : Syst} (A : SysArg w a n c b k d m) (hv : sysB m = true) :
    Calls Tryz.prog 54 #[.agg #[.slice a n c, .slice b k d]] w fun e w' => ∃ g, e = .returned (.slice (some ⟨g, 0, none⟩) k k) ∧ FansA w' g k m.states ∧ Below w.heap.size w w' := by
  refine (fansOf_any A hv).mono ?_
  rintro e w' ⟨g, rfl, h1, h2, h3, h4⟩
  refine ⟨g, rfl, fun x hx a ha => ?_, h4⟩
  obtain ⟨ai, ni, ci, c1, hE⟩ := h3.cells x hx a ha
  exact ⟨ai, ni, ci, c1, hE.below h4⟩
structure PrAt (w4 : World) (B3 nb M : Nat) (va vs sv : Value) (m m' : Syst) (i : Nat) (W : World) : Prop where
  num : NpAt W w4.heap.size nb M sv (prQ m m' i)
  out : Whole W B3 25 #[va, vs]
  rows : RowsOwn W w4.heap.size vs (prRows m m' i)
  acts : W.ownsRow w4.heap.size 9 1 va m.acts.length (m.acts.map Value.string)
  below : Below w4.heap.size w4 W
section
variable {w4 W W' wA wB : World} {B3 nb M : Nat} {va vs sv s2 v1 v2 : Value} {m m' : Syst} {i : Nat} {t : TypeId}
theorem PrAt.up (h : PrAt w4 B3 nb M va vs sv m m' i W) (hb : Below W.heap.size W W') : PrAt w4 B3 nb M va vs sv m m' i W' :=
  ⟨h.num.below hb, up_whole hb h.out, h.rows.below hb, own_up' h.acts hb, h.below.trans (hb.mono h.below.size)⟩
theorem Kp.rowP (hK : Kp W W' (fun k => k = nb ∨ k = M ∨ some k = sv.ownBlock)) {B : Nat} {L : List P2} (hN : NpAt W B nb M sv L) {base : Nat} {e : TypeId} {size n : Nat} {v : Value} {xs : List Value} (hO : W.ownsRow base e size v n xs) (h1 : e ≠ 48) (h2 : e ≠ 111) : W'.ownsRow base e size v n xs :=
  hK.own hO (fun q hq h9 => by
    rcases h9 with rfl | rfl | h9
    · exact own_whole hO hN.box h2 hq.symm
    · exact tab_own hN.tab hO hq.symm
    · rcases own_apart hO hN.lst h1 with h8 | h8
      · rw [h8] at hq; cases hq
      · exact h8 (hq.trans h9))
theorem Kp.boxP (hK : Kp W W' (fun k => k = nb ∨ k = M ∨ some k = sv.ownBlock)) {B : Nat} {L : List P2} (hN : NpAt W B nb M sv L) {g : Nat} {t : TypeId} {cs : Array Value} (hw : Whole W g t cs) (h1 : t ≠ 48) (h2 : t ≠ 111) : Whole W' g t cs :=
  hK.whole hw (fun h9 => by
    rcases h9 with h9 | h9 | h9
    · exact whole_ne hw hN.box h2 h9
    · exact tab_whole hN.tab hw h9
    · exact own_whole hN.lst hw (Ne.symm h1) h9)
theorem PrAt.next (h : PrAt w4 B3 nb M va vs sv m m' i W) (hK : Kp W wA (fun k => k = nb ∨ k = M ∨ some k = sv.ownBlock)) (hN : NpAt wA w4.heap.size nb M s2 (prQ m m' (i + 1))) (hA : EdgeOwn wA w4.heap.size v1 (prRow m m' i)) (hnb : w4.heap.size ≤ nb) (hM : w4.heap.size ≤ M) (h3 : w4.heap.size ≤ B3)
    (hgB : (wA.alloc (.cells #[v1] t)).grownBy wB vs.ownBlock) (hB : ∀ rows, (wA.alloc (.cells #[v1] t)).ownsRow w4.heap.size 77 1 vs i rows → rows.length = i → wB.ownsRow w4.heap.size 77 1 v2 (i + 1) (rows ++ [v1])) :
    PrAt w4 B3 nb M va v2 s2 m m' (i + 1) (wB.setCell ⟨B3, 1, none⟩ v2) := by
  have bA : Below w4.heap.size W wA := hK.below h.below.size (fun k hk => by
    rcases hk with rfl | rfl | hk
    · exact hnb
    · exact hM
    · exact own_ge h.num.lst k hk.symm)
  have al := (Below.refl _ wA).alloc (Nat.le_refl _) (.cells #[v1] t)
  have oA := own_up' (hK.rowP h.num h.acts (by decide) (by decide)) al
  have wA3 := up_whole al (hK.boxP h.num h.out (by decide) (by decide))
  have rA : RowsOwn wA w4.heap.size vs (prRows m m' i) := by
    obtain ⟨rows, r1, r2, r3⟩ := h.rows
    refine ⟨rows, r1, hK.rowP h.num r2 (by decide) (by decide), fun i hi => ?_⟩
    obtain ⟨r, h1, h2⟩ := r3 i hi
    exact ⟨r, h1, hK.rowP h.num h2 (by decide) (by decide)⟩
  have rA := rA.below al
  obtain ⟨rows, r1, r2, r3⟩ := rA
  rw [prRows_len] at r1 r2
  have hs := RowsOwn.snoc (w := wA.alloc (.cells #[v1] t)) (w' := wB) (v' := v2) ⟨rows, by rw [prRows_len]; exact r1, by rw [prRows_len]; exact r2, r3⟩ (hA.alloc _) hgB (fun rows' h1 h2 => by
    rw [prRows_len] at h1 h2 ⊢
    exact hB rows' h1 h2)
  rw [← prRows_succ] at hs
  have hw := wA3.grown hgB (own_whole r2 wA3 (by decide))
  have hg2 := grown_self wB ⟨B3, 1, none⟩ v2
  have hN1 := ((hN.alloc (.cells #[v1] t)).grown hgB r2 (by decide) (by decide)).put hw (by decide) (by decide) 1 v2
  refine ⟨hN1, by simpa using hw.set 1 v2, hs.kept hg2 (.inr (own_whole hs.choose_spec.2.1 hw (by decide)).symm) (fun r l hr => .inr (own_whole hr hw (by decide)).symm), own_stored (oA.kept hgB (own_apart oA r2 (by decide))) hw (by decide), ?_⟩
  have b1 := h.below.trans bA
  exact ((b1.trans (al.mono b1.size)).grown hgB (Nat.le_trans b1.size al.size) (own_ge r2)).setCell h3 _
end

theorem pstp_small {m n : Syst} {i : Nat} (h : PStp m n i) (hi : i ≤ (prQ m n i).length) : i ≤ 5000 ∧ prN m n i ≤ 400000 ∧ (prQ m n i).length ≤ 5000 := by
  rcases Nat.eq_zero_or_pos i with q | q
  · subst q
    exact ⟨by omega, by simp [prN], by simp [prQ]⟩
  · have h1 := (h (i - 1) (by omega)).2
    rw [show i - 1 + 1 = i by omega] at h1
    exact ⟨by omega, h1.1, h1.2⟩
theorem jnt_bound {l k : List Edg} (hl : l.length ≤ 400000) (hk : k.length ≤ 400000) : ∀ a, (jnt l k a).length ≤ a * 160000000000
  | 0 => by simp [jnt]
  | a + 1 => by
    have ih := jnt_bound hl hk a
    have f1 : (fanL l a).length ≤ l.length := List.length_filter_le _ _
    have f2 : (fanL k a).length ≤ k.length := List.length_filter_le _ _
    have hmul : (fanL l a).length * (fanL k a).length ≤ 400000 * 400000 := Nat.mul_le_mul (by omega) (by omega)
    rw [jnt_len]
    omega
theorem sys_stored2 {W : World} {B g : Nat} {va vs : Value} {m : Syst} {cs : Array Value} (h : SysOwn W B va vs m) (hw : Whole W g 25 cs) (u1 u2 : Value) : SysOwn ((W.setCell ⟨g, 0, none⟩ u1).setCell ⟨g, 1, none⟩ u2) B va vs m := by
  have hw1 := hw.set 0 u1
  refine ⟨own_stored (own_stored h.acts hw (by decide)) hw1 (by decide), ?_⟩
  have s1 := h.rows.kept (grown_self W ⟨g, 0, none⟩ u1) (.inr (own_whole h.rows.choose_spec.2.1 hw (by decide)).symm) (fun r l hr => .inr (own_whole hr hw (by decide)).symm)
  exact s1.kept (grown_self _ ⟨g, 1, none⟩ u2) (.inr (own_whole s1.choose_spec.2.1 hw1 (by decide)).symm) (fun r l hr => .inr (own_whole hr hw1 (by decide)).symm)
theorem Kp.drew {W W' : World} {S : Nat → Prop} (h : Kp W.drew W' S) : Kp W W' S := ⟨h.os, h.tape, h.output, h.size, h.block⟩
theorem edge_slice {W : World} {B : Nat} {v : Value} {l : List Edg} {el : Nat} (h : EdgeOwn W B v l) (e : l.length = el) : ∃ ea ec, v = .slice ea el ec ∧ EdgeOwn W B (.slice ea el ec) l := by
  obtain ⟨ea, ec, rfl⟩ := own_slice' h
  rw [e] at *
  exact ⟨ea, ec, rfl, h⟩
/-! ### system.Product -/
set_option maxRecDepth 100000 in
set_option maxHeartbeats 16000000 in
theorem Product_ok {w : World} {a : Option Addr} {n c : Nat} {b : Option Addr} {k d : Nat} {m : Syst} {a' : Option Addr} {n' c' : Nat} {b' : Option Addr} {k' d' : Nat} {m' : Syst} {e0 e1 e2 : Addr} (E : Errs w e0 e1 e2) (A : SysArg w a n c b k d m) (A' : SysArg w a' n' c' b' k' d' m') (h0 : bothS m m' = 0) :
    Calls Tryz.prog 17 #[.agg #[.slice a n c, .slice b k d], .agg #[.slice a' n' c', .slice b' k' d']] w fun e w' => Below w.heap.size w w' ∧
      ((∃ va vs v i, e = .returned (.tuple #[.agg #[va, vs], v, .int .i64 0]) ∧ PrOk m m' i ∧ SysOwn w' w.heap.size va vs ⟨m.acts, prRows m m' i⟩ ∧ w'.ownsRow w.heap.size 48 2 v i (pcells (prQ m m' i))) ∨
        ∃ i, PrBad m m' i ∧ e = .returned (.tuple #[.agg #[.slice none 0 0, .slice none 0 0], .slice none 0 0, .int .i64 2])) := by
  obtain ⟨hv, hv', hac⟩ := bothS_zero h0
  obtain ⟨i2, hi2, hz20, hz21, hz22⟩ := info_parts infoRow
  have hk5 : k ≤ 5000 := by have := ((sysB_iff m).1 hv).2.2.1; have := A.len; omega
  have hk5' : k' ≤ 5000 := by have := ((sysB_iff m').1 hv').2.2.1; have := A'.len; omega
  have hn8 : n ≤ 1000000 := by have := A.acts.len; have := ((actsB_iff _).1 ((sysB_iff m).1 hv).1).1; omega
  have hb0 := (((Below.refl w.heap.size w).alloc (Nat.le_refl _) (.cells #[.slice a n c, .slice b k d] 25)).alloc (by simp) (.cells #[.slice a' n' c', .slice b' k' d'] 25)).alloc (by simp; omega) (.cells #[.slice none 0 0, .slice none 0 0] 25)
  have hx1 := ((Whole.new w 25 #[.slice a n c, .slice b k d]).alloc (.cells #[.slice a' n' c', .slice b' k' d'] 25)).alloc (.cells #[.slice none 0 0, .slice none 0 0] 25)
  have hx2 := (Whole.new (w.alloc (.cells #[.slice a n c, .slice b k d] 25)) 25 #[.slice a' n' c', .slice b' k' d']).alloc (.cells #[.slice none 0 0, .slice none 0 0] 25)
  have hx3 := Whole.new ((w.alloc (.cells #[.slice a n c, .slice b k d] 25)).alloc (.cells #[.slice a' n' c', .slice b' k' d'] 25)) 25 #[.slice none 0 0, .slice none 0 0]
  have hz : (((w.alloc (.cells #[.slice a n c, .slice b k d] 25)).alloc (.cells #[.slice a' n' c', .slice b' k' d'] 25)).alloc (.cells #[.slice none 0 0, .slice none 0 0] 25)).heap.size = w.heap.size + 3 := by simp
  simp only [World.size_alloc] at hx2 hx3
  obtain ⟨w0, HW0⟩ : ∃ z, Hid (((w.alloc (.cells #[.slice a n c, .slice b k d] 25)).alloc (.cells #[.slice a' n' c', .slice b' k' d'] 25)).alloc (.cells #[.slice none 0 0, .slice none 0 0] 25) = z) := ⟨_, Lib.hid rfl⟩
  rw [HW0.out] at hb0 hx1 hx2 hx3 hz
  have HA := Lib.hid A
  have HA' := Lib.hid A'
  have HV := Lib.hid hv
  have HV' := Lib.hid hv'
  have HX1 := Lib.hid hx1
  have HX2 := Lib.hid hx2
  have HX3 := Lib.hid hx3
  have HZ0 := Lib.hid hz
  have HB0 := Lib.hid hb0
  have HKl : Hid (m.states.length = k ∧ m'.states.length = k') := Lib.hid ⟨A.len.symm, A'.len.symm⟩
  have hc0 := checkBoth_any (E.below hb0) (A.below hb0) (A'.below hb0)
  rw [h0] at hc0
  have HC0 := Lib.hid hc0
  have q0 : w0.cell? ⟨w.heap.size, 0, none⟩ = some (.slice a n c) ∧ w0.cell? ⟨w.heap.size, 1, none⟩ = some (.slice b k d) ∧ w0.cell? ⟨w.heap.size + 1, 0, none⟩ = some (.slice a' n' c') ∧ w0.cell? ⟨w.heap.size + 1, 1, none⟩ = some (.slice b' k' d') := ⟨hx1.cell 0, hx1.cell 1, hx2.cell 0, hx2.cell 1⟩
  have p0 := q0.1
  have p1 := q0.2.1
  have p2 := q0.2.2.1
  have p3 := q0.2.2.2
  have HQ0 := Lib.hid q0
  clear A A' hv hv' hb0 hx1 hx2 hx3 hz E hc0 q0
  go_enter Tryz.func17, Tryz.ntmps17
  go_upto_region 1 with (fail)
  rw [HW0.out]
  go_wp2_with fail
  refine HC0.out.mono ?_
  rintro e w1 ⟨rfl, hb1⟩
  have kD := ms_up hb1 HQ0.out
  have HB1 := Lib.hid (HB0.out.trans (hb1.mono HB0.out.size))
  have HB01 := Lib.hid hb1
  clear hb1 p0 p1 p2 p3
  go_upto_region 4 with (fail)
  go_cut [8, 9] (fun s8 s9 wx => ∃ gl gr, s8 = .slice (some ⟨gl, 0, none⟩) k k ∧ s9 = .slice (some ⟨gr, 0, none⟩) k' k' ∧ Below w1.heap.size w1 wx ∧ FansA wx gl k m.states ∧ FansA wx gr k' m'.states)
  case first =>
    have HAw := Lib.hid (HA.out.below HB1.out)
    have HAw' := Lib.hid (HA'.out.below HB1.out)
    have kE := ms_dr kD
    have hcL := fansA_any (w := w1.drew) (HAw.out.below (Below.refl _ _).drew) HV.out
    have hcR := fansA_any (w := w1.drew) (HAw'.out.below (Below.refl _ _).drew) HV'.out
    go_region_held3 (fun w' => w'.cell? ⟨w.heap.size, 0, none⟩ = some (.slice a n c) ∧ w'.cell? ⟨w.heap.size, 1, none⟩ = some (.slice b k d) ∧ w'.cell? ⟨w.heap.size + 1, 0, none⟩ = some (.slice a' n' c') ∧ w'.cell? ⟨w.heap.size + 1, 1, none⟩ = some (.slice b' k' d'))
      ((with_reducible (first | assumption | exact kF | exact kL | exact kR | exact kE)))
      (first
        | (go_at_call 54; first
            | (have hc := fansA_any (w := wL) (HAw'.out.below hbL) HV'.out; (with_reducible refine Calls.mono hc ?_); clear hc; rintro e wF ⟨gr, rfl, hRF, hb2⟩; have kF := ms_up hb2 kL; have hbF := below_two hbL hb2; have hLF := hL.below hb2)
            | (have hc := fansA_any (w := wR) (HAw.out.below hbR) HV.out; (with_reducible refine Calls.mono hc ?_); clear hc; rintro e wF ⟨gl, rfl, hLF, hb2⟩; have kF := ms_up hb2 kR; have hbF := below_two hbR hb2; have hRF := hR.below hb2)
            | ((with_reducible refine Calls.mono hcL ?_); rintro e wL ⟨gl, rfl, hL, hb2⟩; have kL := ms_up hb2 kE; have hbL : Below w1.heap.size w1 wL := (Below.refl _ w1).drew.trans hb2)
            | ((with_reducible refine Calls.mono hcR ?_); rintro e wR ⟨gr, rfl, hR, hb2⟩; have kR := ms_up hb2 kE; have hbR : Below w1.heap.size w1 wR := (Below.refl _ w1).drew.trans hb2))
        | fail)
    all_goals
      go_wp2_with fail
      go_meet
      exact ⟨_, _, rfl, rfl, hbF, hLF, hRF⟩
  case rest =>
    as_aux_lemma =>
    obtain ⟨w4, hwX⟩ : ∃ z, z = wc := ⟨_, rfl⟩
    subst hwX
    obtain ⟨gl, gr, rfl, rfl, hb4, hL, hR⟩ := hcut
    have HL := Lib.hid hL
    have HR := Lib.hid hR
    have hb04 := HB01.out.trans (hb4.mono HB01.out.size)
    have HB4 := Lib.hid (HB0.out.trans (hb04.mono HB0.out.size))
    have HX34 := Lib.hid (HX3.out.below hb04 HX3.out.lt)
    have hx14 := HX1.out.below hb04 HX1.out.lt
    have hal := (Below.refl _ w4).alloc (Nat.le_refl _) (.cells #[.int .i64 0, .int .i64 0] 48)
    have hX5 := Whole.new w4 48 #[.int .i64 0, .int .i64 0]
    obtain ⟨w5, HW5⟩ : ∃ z, Hid (w4.alloc (.cells #[.int .i64 0, .int .i64 0] 48) = z) := ⟨_, Lib.hid rfl⟩
    obtain ⟨g5, HG5⟩ : ∃ z, Hid (w4.heap.size = z) := ⟨_, Lib.hid rfl⟩
    have HG5' := HG5
    rw [HW5.out] at hal hX5
    rw [HG5.out] at hX5
    have j0 := hX5.cell 0
    have j1 := hX5.cell 1
    simp only [List.getElem?_toArray, List.getElem?_cons_succ, List.getElem?_cons_zero] at j0 j1
    have HB5 := Lib.hid hal
    have hO := Lib.hid (ofP_any j0 j1)
    have HX14 := Lib.hid hx14
    clear hL hR hb4 hb04 hal hX5 hx14 j0 j1 kD
    go_wp2_with fail
    rw [HW5.out, HG5.out]
    refine hO.out.mono ?_
    rintro e w6 ⟨nb, M, sv, rfl, hnb, hM, hN6, hb6⟩
    have hb46 := HB5.out.trans (hb6.mono HB5.out.size)
    have HNb : Hid (w4.heap.size ≤ nb ∧ w4.heap.size ≤ M) := Lib.hid ⟨Nat.le_trans HB5.out.size hnb, Nat.le_trans HB5.out.size hM⟩
    have HN6 := Lib.hid (hN6.low (B' := w4.heap.size) HB5.out.size)
    have HB46 := Lib.hid hb46
    have r0 := (HX14.out.below hb46 HX14.out.lt).cell 0
    simp only [List.getElem?_toArray, List.getElem?_cons_zero] at r0
    have HAc := Lib.hid (cloneT_any (HA.out.acts.below (HB4.out.trans (hb46.mono HB4.out.size))) hn8)
    clear hnb hM hN6 hb6 hb46
    go_wp2_with fail
    refine HAc.out.mono ?_
    rintro e w7 ⟨va, rfl, hva, hb7⟩
    obtain ⟨aa, ca, rfl⟩ := own_slice' hva
    obtain ⟨B3, HB3e⟩ : ∃ z, Hid (w7.heap.size = z) := ⟨_, Lib.hid rfl⟩
    obtain ⟨w8, HW8⟩ : ∃ z, Hid (w7.alloc (.cells #[.slice aa n ca, .slice none 0 0] 25) = z) := ⟨_, Lib.hid rfl⟩
    have HP0 : Hid (PrAt w4 B3 nb M (.slice aa n ca) (.slice none 0 0) sv m m' 0 w8) := Lib.hid (by
      have al := (Below.refl _ w7).alloc (Nat.le_refl _) (.cells #[.slice aa n ca, .slice none 0 0] 25)
      rw [HW8.out] at al
      have b8 := hb7.trans (al.mono hb7.size)
      refine ⟨HN6.out.below b8, ?_, RowsOwn.none _ _, ?_, HB46.out.trans (b8.mono HB46.out.size)⟩
      · rw [← HW8.out, ← HB3e.out]; exact Whole.new _ _ _
      · have h9 := HA.out.acts.len
        rw [← h9]
        exact own_low (own_up' hva al) HB46.out.size)
    have HB3l : Hid (w4.heap.size ≤ B3) := Lib.hid (by rw [← HB3e.out]; exact Nat.le_trans HB46.out.size hb7.size)
    have HS0 : Hid (PStp m m' 0) := Lib.hid (fun j hj => by omega)
    clear hva hb7 r0 hO
    go_wp2_with fail
    rw [HW8.out, HB3e.out]
    go_upto_region 9 with (fail)
    go_loopw [12, 13, 14, 15, 16] (fun tv iv _ _ _ wr => ∃ (i : Nat) (sv vs : Value), iv = .int .i64 i ∧ tv = .int .i64 ((prN m m' i : Nat) : Int) ∧ Hid (PStp m m' i) ∧ i ≤ (prQ m m' i).length ∧ Hid (PrAt w4 B3 nb M (.slice aa n ca) vs sv m m' i wr)) (fun _ iv _ _ _ _ => 5001 - (intOf iv).toNat)
    case atStart => exact ⟨0, sv, _, rfl, rfl, HS0, Nat.zero_le _, HP0⟩
    case round =>
      as_aux_lemma =>
      obtain ⟨w9, hw9⟩ : ∃ z, z = wr := ⟨_, rfl⟩
      subst hw9
      obtain ⟨i, sv, vs, rfl, rfl, hSt, hi, hP⟩ := hrel
      have HIn := Lib.hid (prQ_in HV.out HV'.out i hSt.out)
      obtain ⟨hi5, hpn, hlq⟩ := pstp_small hSt.out hi
      obtain ⟨ln, HLn⟩ : ∃ z, Hid ((prQ m m' i).length = z) := ⟨_, Lib.hid rfl⟩
      obtain ⟨T, HT⟩ : ∃ z, Hid (prN m m' i = z) := ⟨_, Lib.hid rfl⟩
      rw [HLn.out] at hi hlq
      rw [HT.out] at hpn ⊢
      have hlst := hP.out.num.lst
      rw [HLn.out] at hlst
      obtain ⟨la, lc, rfl⟩ := own_slice' hlst
      have s0 := hP.out.num.box.cell 0
      simp only [List.getElem?_toArray, List.getElem?_cons_succ, List.getElem?_cons_zero] at s0
      have hz9 := hP.out.below.size
      by_cases hlt : i < ln
      · obtain ⟨⟨x, y⟩, HXY⟩ : ∃ p, Hid ((prQ m m' i)[i]? = some p) := ⟨_, Lib.hid (List.getElem?_eq_getElem (by rw [HLn.out]; exact hlt))⟩
        have HPa : Hid (pAt m m' i = (x, y)) := Lib.hid (by unfold pAt; rw [List.getD_eq_getElem?_getD, HXY.out]; rfl)
        have hlow := HIn.out.low _ (List.mem_of_getElem? HXY.out)
        have hx : x < k := by have := HKl.out.1; have := hlow.1; omega
        have hy : y < k' := by have := HKl.out.2; have := hlow.2; omega
        have HLow := Lib.hid hlow
        obtain ⟨lb, lc', e, c0, c1⟩ := pair_cells2 hlst hlt HXY.out
        cases e
        have hal := (Below.refl _ w9).alloc (Nat.le_refl _) (.cells #[.int .i64 (x : Int), .int .i64 (y : Int)] 48)
        have hP10 := hP.out.up hal
        have hX10 := Whole.new w9 48 #[.int .i64 (x : Int), .int .i64 (y : Int)]
        obtain ⟨w10, HW10⟩ : ∃ z, Hid (w9.alloc (.cells #[.int .i64 (x : Int), .int .i64 (y : Int)] 48) = z) := ⟨_, Lib.hid rfl⟩
        obtain ⟨e10, HE10⟩ : ∃ z, Hid (w9.heap.size = z) := ⟨_, Lib.hid rfl⟩
        rw [HW10.out] at hP10 hX10
        rw [HE10.out] at hX10
        have k0 := hX10.cell 0
        have k1 := hX10.cell 1
        simp only [List.getElem?_toArray, List.getElem?_cons_succ, List.getElem?_cons_zero] at k0 k1
        have i0 : (0 : Int) ≤ (i : Int) := by omega
        have i1 : (i : Int) < (ln : Int) := by omega
        have x0 : (0 : Int) ≤ (x : Int) := by omega
        have x1 : (x : Int) < (k : Int) := by omega
        have y0 : (0 : Int) ≤ (y : Int) := by omega
        have y1 : (y : Int) < (k' : Int) := by omega
        have HP10 := Lib.hid hP10
        obtain ⟨l, HLl⟩ : ∃ z, Hid (stAt m.states x = z) := ⟨_, Lib.hid rfl⟩
        obtain ⟨l', HLl'⟩ : ∃ z, Hid (stAt m'.states y = z) := ⟨_, Lib.hid rfl⟩
        have HF : Hid (FanAt w4 gl (x * 8) l) := Lib.hid (by rw [← HLl.out]; exact HL.out x hx)
        have HG : Hid (FanAt w4 gr (y * 8) l') := Lib.hid (by rw [← HLl'.out]; exact HR.out y hy)
        have HJa : Hid (jAt m m' (pAt m m' i) = jnt l l' 8) := Lib.hid (by rw [HPa.out, ← HLl.out, ← HLl'.out]; rfl)
        have HPl : Hid (l.length ≤ 400000 ∧ l'.length ≤ 400000 ∧ (∀ e ∈ l, 0 ≤ e.2) ∧ (∀ e ∈ l', 0 ≤ e.2)) := Lib.hid (by
          rw [← HLl.out, ← HLl'.out]
          have h1 := row_le m.states x hlow.1
          have h2 := row_le m'.states y hlow.2
          have h3 := ((sysB_iff m).1 HV.out).2.2.2.2
          have h4 := ((sysB_iff m').1 HV'.out).2.2.2.2
          exact ⟨by omega, by omega, fun e he => (edgeP_in HV.out hlow.1 he).2.2.1, fun e he => (edgeP_in HV'.out hlow.2 he).2.2.1⟩)
        obtain ⟨J, HJ⟩ : ∃ z, Hid ((jnt l l' 8).length = z) := ⟨_, Lib.hid rfl⟩
        have hJb : J ≤ 1280000000000 := by have := jnt_bound HPl.out.1 HPl.out.2.1 8; have := HJ.out; omega
        have HNs : Hid (prN m m' (i + 1) = T + J) := Lib.hid (by
          show prN m m' i + (jAt m m' (pAt m m' i)).length = _
          rw [HT.out, HJa.out, HJ.out])
        have HQs : Hid (prQ m m' (i + 1) = prE (prQ m m' i) (jnt l l' 8)) := Lib.hid (by rw [prQ_succ, HJa.out])
        have HRs : Hid (prRow m m' i = sortEd (prR (prQ m m' i) (jnt l l' 8))) := Lib.hid (by unfold prRow; rw [HJa.out])
        have hil : i < (prQ m m' i).length := by rw [HLn.out]; exact hlt
        have HIl := Lib.hid hil
        have hCj := fun (W : World) (hb : Below w4.heap.size w4 W) => countJoint_any (w := W) (HF.out.below hb) (HG.out.below hb) HPl.out.1 HPl.out.2.1
        rw [HJ.out] at hCj
        have HCj := Lib.hid hCj
        clear hal hP10 hX10 hlst hlow hCj hil
        go_upto_region 12 with (fail)
        rw [HW10.out, HE10.out]
        clear c0 c1 s0
        go_quiet (fail)
        go_wp2_with fail
        refine (HCj.out _ (by first | exact HP10.out.below.drew | exact below_drewN HP10.out.below _)).mono ?_
        rintro e w11 ⟨rfl, hb11⟩
        have HP11 : Hid (PrAt w4 B3 nb M (.slice aa n ca) vs (.slice (some ⟨lb, 0, none⟩) ln lc) m m' i w11) := Lib.hid (HP10.out.up (by first | exact (Below.refl _ w10).drew.trans hb11 | exact (below_drewN (Below.refl _ w10) _).trans hb11))
        have hp11 := HP11.out
        have hX3 := HX34.out.below hp11.below HX34.out.lt
        have g0 := hX3.cell 0
        have g1 := hX3.cell 1
        have g2 := hX3.frozen 0
        have g3 := hX3.frozen 1
        have g4 := hX3.lt
        simp only [List.getElem?_toArray, List.getElem?_cons_succ, List.getElem?_cons_zero] at g0 g1
        have HX3 := Lib.hid hX3
        have HB11 := Lib.hid (HB4.out.trans (hp11.below.mono HB4.out.size))
        clear hb11 hp11 hX3 k0 k1
        by_cases hbig : 400000 < T + J
        · have HBad : Hid (PrBad m m' i) := Lib.hid ⟨hSt.out, HIl.out, .inl (by rw [HNs.out]; exact hbig)⟩
          have HBf : Hid (Below w.heap.size w ((w11.setCell ⟨w.heap.size + 2, 0, none⟩ (.slice none 0 0)).setCell ⟨w.heap.size + 2, 1, none⟩ (.slice none 0 0))) := Lib.hid ((HB11.out.setCell (by simp) _).setCell (by simp) _)
          have l0 := ((HX3.out.set 0 (.slice none 0 0)).set 1 (.slice none 0 0)).cell 0
          have l1 := ((HX3.out.set 0 (.slice none 0 0)).set 1 (.slice none 0 0)).cell 1
          simp only [List.setIfInBounds_toArray, List.set_cons_zero, List.set_cons_succ, List.getElem?_toArray, List.getElem?_cons_succ, List.getElem?_cons_zero] at l0 l1
          have hbig2 : (400000 : Int) < (T : Int) + (J : Int) := by omega
          go_wp2
          exact bodyPost_ret (v := .tuple #[.agg #[.slice none 0 0, .slice none 0 0], .slice none 0 0, .int .i64 2]) (by simp [results, Tryz.results17, go_sem, l0, l1]) rfl ⟨HBf.out, .inr ⟨i, HBad.out, rfl⟩⟩
        · have hbig2 : ¬ (400000 : Int) < (T : Int) + (J : Int) := by omega
          have HJl := Lib.hid (jointEdges_any (w00 := w4) (w := w11.drew) (nb := nb) (M := M) HP11.out.below.drew HF.out HG.out HP11.out.num.drew HNb.out.1 HNb.out.2 HPl.out.2.2.1 HPl.out.2.2.2 (by rw [HJ.out]; omega) (by rw [HLn.out]; exact hlq))
          obtain ⟨ln2, HLn2⟩ : ∃ z, Hid ((prQ m m' (i + 1)).length = z) := ⟨_, Lib.hid rfl⟩
          obtain ⟨el, HEl⟩ : ∃ z, Hid ((prRow m m' i).length = z) := ⟨_, Lib.hid rfl⟩
          have hln2 : ln2 ≤ 500000 := by
            have h1 := prE_len (jnt l l' 8) (prQ m m' i)
            rw [← HQs.out, HLn2.out, HLn.out, HJ.out] at h1
            omega
          obtain ⟨rows, r1, r2, r3⟩ := HP11.out.rows
          rw [prRows_len] at r1 r2
          obtain ⟨bb, cc, rfl⟩ := own_slice r2
          have HR2 := Lib.hid r2
          have o0 := HP11.out.out.cell 1
          have o1 := HP11.out.out.frozen 1
          have o2 := HP11.out.out.lt
          simp only [List.getElem?_toArray, List.getElem?_cons_succ, List.getElem?_cons_zero] at o0
          have HSz : Hid (w4.heap.size ≤ w11.heap.size) := Lib.hid HP11.out.below.size
          clear r1 r2 r3 g0 g1 g2 g3 g4
          go_upto_region 16 with (fail)
          go_region_law (first
            | (refine step_append_sz rfl (.tmp 68) (.tmp 73) 23 (by rfl) w4.heap.size 77 i2 (.slice none 0 0) 1 24 Tryz.underlying23 hi2 hz20 hz21 hz22 rfl (by decide) (.slice bb i cc) (by rfl) i rows (HO8.out.alloc _) (some ⟨w12.heap.size, 0, none⟩) 1 1 (by rfl) [.slice ea el ec] (fun h => by cases h) rfl (one_src _ _ _) (by simp [Value.oneCell']) (by unfold maxLen; omega) (by omega) (Nat.le_trans HSz.out (Nat.le_trans hz12 (by simp))) ?_; intro v2 wB hB hgB hatB; clear hatB; obtain ⟨a2, q2, rfl⟩ := own_slice hB; have kW2 := (HW12.out.alloc (.cells #[.slice ea el ec] 77)).grown (w' := wB) hgB HNe.out; have k4 := kW2.cell 1; have k5 := kW2.frozen 1; have k6 := kW2.lt; simp only [List.getElem?_toArray, List.getElem?_cons_succ, List.getElem?_cons_zero] at k4)
            | (go_simp; refine HJl.out.mono ?_; rintro e w12 ⟨v12, s3, rfl, hv12, hN12, hK12, hs12⟩; obtain ⟨ea, ec, HV12⟩ := edge_slice (by rw [← HRs.out] at hv12; exact hv12) HEl.out; have hK := Kp.drew hK12; have HW12 := Lib.hid (hK.boxP HP11.out.num HP11.out.out (by decide) (by decide)); have HO8 := Lib.hid (hK.rowP HP11.out.num HR2.out (by decide) (by decide)); have hz12 := hK.size; have HNe := Lib.hid (own_whole (HO8.out.alloc (.cells #[.slice ea el ec] 77)) (HW12.out.alloc (.cells #[.slice ea el ec] 77)) (by decide)); obtain ⟨rfl, HE12⟩ := HV12; have k2 := HW12.out.cell 1; simp only [List.getElem?_toArray, List.getElem?_cons_succ, List.getElem?_cons_zero] at k2; have k3 := cell_new k2 (.cells #[.slice ea el ec] 77); dsimp only))
          all_goals
            obtain ⟨xa, xc, e3⟩ := own_slice' hN12.lst
            rw [← HQs.out, HLn2.out] at e3
            subst e3
            have HP2 : Hid (PrAt w4 B3 nb M (.slice aa n ca) (.slice a2 (i + 1) q2) (.slice xa ln2 xc) m m' (i + 1) (wB.setCell ⟨B3, 1, none⟩ (.slice a2 (i + 1) q2))) := Lib.hid (HP11.out.next hK (by rw [HQs.out]; exact hN12) (own_low HE12 HSz.out) HNb.out.1 HNb.out.2 HB3l.out hgB (fun rows' e1 e2 => by
              have e4 := own_eq e1 (HO8.out.alloc (.cells #[.slice ea el ec] 77))
              rw [e4]; exact hB))
            have b0 := HP2.out.num.box.cell 0
            have hX3 := HX34.out.below HP2.out.below HX34.out.lt
            have g0 := hX3.cell 0
            have g1 := hX3.cell 1
            have g2 := hX3.frozen 0
            have g3 := hX3.frozen 1
            have g4 := hX3.lt
            simp only [List.getElem?_toArray, List.getElem?_cons_succ, List.getElem?_cons_zero] at b0 g0 g1
            obtain ⟨wF, HWF⟩ : ∃ z, Hid (wB.setCell ⟨B3, 1, none⟩ (.slice a2 (i + 1) q2) = z) := ⟨_, Lib.hid rfl⟩
            rw [HWF.out] at HP2 b0 hX3 g0 g1 g2 g3 g4 ⊢
            have HX3 := Lib.hid hX3
            have HBF := Lib.hid (HB4.out.trans (HP2.out.below.mono HB4.out.size))
            clear hB hgB kW2 k4 k5 k6 hN12 hK12 hs12 hK hz12 HE12 k2 k3 hX3 o0 o1 o2
            by_cases hbig3 : 5000 < ln2
            · have HBad : Hid (PrBad m m' i) := Lib.hid ⟨hSt.out, HIl.out, .inr (by rw [HLn2.out]; exact hbig3)⟩
              have HBf : Hid (Below w.heap.size w ((wF.setCell ⟨w.heap.size + 2, 0, none⟩ (.slice none 0 0)).setCell ⟨w.heap.size + 2, 1, none⟩ (.slice none 0 0))) := Lib.hid ((HBF.out.setCell (by simp) _).setCell (by simp) _)
              have l0 := ((HX3.out.set 0 (.slice none 0 0)).set 1 (.slice none 0 0)).cell 0
              have l1 := ((HX3.out.set 0 (.slice none 0 0)).set 1 (.slice none 0 0)).cell 1
              simp only [List.setIfInBounds_toArray, List.set_cons_zero, List.set_cons_succ, List.getElem?_toArray, List.getElem?_cons_succ, List.getElem?_cons_zero] at l0 l1
              have hbig4 : (5000 : Int) < (ln2 : Int) := by omega
              go_wp2
              exact bodyPost_ret (v := .tuple #[.agg #[.slice none 0 0, .slice none 0 0], .slice none 0 0, .int .i64 2]) (by simp [results, Tryz.results17, go_sem, l0, l1]) rfl ⟨HBf.out, .inr ⟨i, HBad.out, rfl⟩⟩
            · have hbig4 : ¬ (5000 : Int) < (ln2 : Int) := by omega
              have HSn : Hid (PStp m m' (i + 1)) := Lib.hid (pstp_next hSt.out HIl.out (by rw [HNs.out]; omega) (by rw [HLn2.out]; omega))
              have HLe : Hid (i + 1 ≤ (prQ m m' (i + 1)).length) := Lib.hid (by
                have h7 := (prQ_pre m m' i 1).length_le
                have h8 := HIl.out
                omega)
              clear g0 g1 g2 g3 g4
              go_wp2
              go_roundw
              case rel => exact ⟨i + 1, _, _, by go_num, by rw [HNs.out]; go_num, HSn, HLe.out, HP2⟩
              case measure => simp [intOf]; omega
      · have hjn : ln = i := by omega
        subst hjn
        have hX3 := HX34.out.below hP.out.below HX34.out.lt
        have x0 := hX3.cell 0
        have x1 := hX3.cell 1
        have x2 := hX3.frozen 0
        have x3 := hX3.frozen 1
        have x4 := hX3.lt
        obtain ⟨rows, r1, r2, r3⟩ := hP.out.rows
        rw [prRows_len] at r1 r2
        obtain ⟨bb, cc, rfl⟩ := own_slice r2
        have z1 := hP.out.out.cell 0
        have z2 := hP.out.out.cell 1
        simp only [List.getElem?_toArray, List.getElem?_cons_succ, List.getElem?_cons_zero] at x0 x1 z1 z2
        have hw := hX3.set 0 (.slice aa n ca)
        have HRs : Hid (SysOwn ((w9.setCell ⟨w.heap.size + 2, 0, none⟩ (.slice aa n ca)).setCell ⟨w.heap.size + 2, 1, none⟩ (.slice bb ln cc)) w.heap.size (.slice aa n ca) (.slice bb ln cc) ⟨m.acts, prRows m m' ln⟩) := Lib.hid
          (sys_stored2 (m := ⟨m.acts, prRows m m' ln⟩) ⟨own_low hP.out.acts HB4.out.size, hP.out.rows.low HB4.out.size⟩ hX3 _ _)
        have HRB : Hid (Below w.heap.size w ((w9.setCell ⟨w.heap.size + 2, 0, none⟩ (.slice aa n ca)).setCell ⟨w.heap.size + 2, 1, none⟩ (.slice bb ln cc))) := Lib.hid (((HB4.out.trans (hP.out.below.mono HB4.out.size)).setCell (by simp) _).setCell (by simp) _)
        have HRL : Hid (((w9.setCell ⟨w.heap.size + 2, 0, none⟩ (.slice aa n ca)).setCell ⟨w.heap.size + 2, 1, none⟩ (.slice bb ln cc)).ownsRow w.heap.size 48 2 (.slice la ln lc) ln (pcells (prQ m m' ln))) := Lib.hid
          (own_low (own_stored (own_stored hlst hX3 (by decide)) hw (by decide)) HB4.out.size)
        have HOk : Hid (PrOk m m' ln) := Lib.hid ⟨hSt.out, HLn.out⟩
        have g0 := (hX3.set 0 (.slice aa n ca)).cell 0
        have g1 := ((hX3.set 0 (.slice aa n ca)).set 1 (.slice bb ln cc)).cell 1
        simp only [List.setIfInBounds_toArray, List.set_cons_zero, List.set_cons_succ, List.getElem?_toArray, List.getElem?_cons_succ, List.getElem?_cons_zero] at g0 g1
        have hne : nb ≠ w.heap.size + 2 := whole_ne hP.out.num.box hX3 (by decide)
        have s2 := ((hP.out.num.box.far (p := ⟨w.heap.size + 2, 0, none⟩) hne (.slice aa n ca)).far (p := ⟨w.heap.size + 2, 1, none⟩) hne (.slice bb ln cc)).cell 0
        simp only [List.getElem?_toArray, List.getElem?_cons_succ, List.getElem?_cons_zero] at s2
        clear hw hne r1 r2 r3 hlst hX3
        go_upto_region 19 with (fail)
        go_region
        all_goals
          go_wp2
          first
            | exact bodyPost_ret (v := .tuple #[.agg #[.slice aa n ca, .slice bb ln cc], .slice la ln lc, .int .i64 0]) (by simp [results, Tryz.results17, go_sem, g0, g1]) rfl ⟨HRB.out, .inl ⟨_, _, _, ln, rfl, HOk.out, HRs.out, HRL.out⟩⟩
            | exact bodyPost_ret (v := .tuple #[.agg #[.slice aa n ca, .slice bb ln cc], .slice la ln lc, .int .i64 0]) (by simp [results, Tryz.results17, go_sem, g0, g1]) rfl ⟨HRB.out.drew, .inl ⟨_, _, _, ln, rfl, HOk.out, ⟨HRs.out.acts, HRs.out.rows⟩, HRL.out⟩⟩
end Go.Proofs.YtgnbkepdbdgkdaaGreatDoor
/- system.Product at any two systems. -/
namespace Go.Proofs.YtgnbkepdbdgkdaaGreatDoor
open Go.RowKit Pl

set_option maxRecDepth 100000 in
set_option maxHeartbeats 2000000 in
theorem Product_bad {w : World} {a : Option Addr} {n c : Nat} {b : Option Addr} {k d : Nat} {m : Syst} {a' : Option Addr} {n' c' : Nat} {b' : Option Addr} {k' d' : Nat} {m' : Syst} {e0 e1 e2 : Addr} (E : Errs w e0 e1 e2) (A : SysArg w a n c b k d m) (A' : SysArg w a' n' c' b' k' d' m') (hbad : bothS m m' ≠ 0) :
    Calls Tryz.prog 17 #[.agg #[.slice a n c, .slice b k d], .agg #[.slice a' n' c', .slice b' k' d']] w fun e w' => e = .returned (.tuple #[.agg #[.slice none 0 0, .slice none 0 0], .slice none 0 0, .int .i64 (bothS m m')]) ∧ Below w.heap.size w w' := by
  have hb0 := (((Below.refl w.heap.size w).alloc (Nat.le_refl _) (.cells #[.slice a n c, .slice b k d] 25)).alloc (by simp) (.cells #[.slice a' n' c', .slice b' k' d'] 25)).alloc (by simp; omega) (.cells #[.slice none 0 0, .slice none 0 0] 25)
  have hx1 := ((Whole.new w 25 #[.slice a n c, .slice b k d]).alloc (.cells #[.slice a' n' c', .slice b' k' d'] 25)).alloc (.cells #[.slice none 0 0, .slice none 0 0] 25)
  have hx2 := (Whole.new (w.alloc (.cells #[.slice a n c, .slice b k d] 25)) 25 #[.slice a' n' c', .slice b' k' d']).alloc (.cells #[.slice none 0 0, .slice none 0 0] 25)
  have hx3 := Whole.new ((w.alloc (.cells #[.slice a n c, .slice b k d] 25)).alloc (.cells #[.slice a' n' c', .slice b' k' d'] 25)) 25 #[.slice none 0 0, .slice none 0 0]
  simp only [World.size_alloc] at hx2 hx3
  obtain ⟨w0, HW0⟩ : ∃ z, Hid (((w.alloc (.cells #[.slice a n c, .slice b k d] 25)).alloc (.cells #[.slice a' n' c', .slice b' k' d'] 25)).alloc (.cells #[.slice none 0 0, .slice none 0 0] 25) = z) := ⟨_, Lib.hid rfl⟩
  rw [HW0.out] at hb0 hx1 hx2 hx3
  have HB0 := Lib.hid hb0
  have HX3 := Lib.hid hx3
  obtain ⟨cb, HCb⟩ : ∃ z, Hid (bothS m m' = z) := ⟨_, Lib.hid rfl⟩
  have hc0 := checkBoth_any (E.below hb0) (A.below hb0) (A'.below hb0)
  rw [HCb.out] at hc0 hbad ⊢
  have HC0 := Lib.hid hc0
  have p0 : w0.cell? ⟨w.heap.size, 0, none⟩ = some (.slice a n c) := hx1.cell 0
  have p1 : w0.cell? ⟨w.heap.size, 1, none⟩ = some (.slice b k d) := hx1.cell 1
  have p2 : w0.cell? ⟨w.heap.size + 1, 0, none⟩ = some (.slice a' n' c') := hx2.cell 0
  have p3 : w0.cell? ⟨w.heap.size + 1, 1, none⟩ = some (.slice b' k' d') := hx2.cell 1
  have hcb : (cb != 0) = true := by simpa using hbad
  clear hb0 hx1 hx2 hx3 E A A' hc0 hbad
  go_enter Tryz.func17, Tryz.ntmps17
  go_upto_region 1 with (fail)
  rw [HW0.out]
  go_wp2_with fail
  refine HC0.out.mono ?_
  rintro e w1 ⟨rfl, hb1⟩
  have hX3 := HX3.out.below hb1 HX3.out.lt
  have g0 := hX3.cell 0
  have g1 := hX3.cell 1
  have g2 := hX3.frozen 0
  have g3 := hX3.frozen 1
  have g4 := hX3.lt
  have l0 := ((hX3.set 0 (.slice none 0 0)).set 1 (.slice none 0 0)).cell 0
  have l1 := ((hX3.set 0 (.slice none 0 0)).set 1 (.slice none 0 0)).cell 1
  simp only [List.setIfInBounds_toArray, List.set_cons_zero, List.set_cons_succ, List.getElem?_toArray, List.getElem?_cons_succ, List.getElem?_cons_zero] at g0 g1 l0 l1
  have HBf : Hid (Below w.heap.size w ((w1.setCell ⟨w.heap.size + 2, 0, none⟩ (.slice none 0 0)).setCell ⟨w.heap.size + 2, 1, none⟩ (.slice none 0 0))) := Lib.hid (((HB0.out.trans (hb1.mono HB0.out.size)).setCell (by simp) _).setCell (by simp) _)
  clear hb1 hX3 p0 p1 p2 p3
  go_wp2
  exact bodyPost_ret (v := .tuple #[.agg #[.slice none 0 0, .slice none 0 0], .slice none 0 0, .int .i64 cb]) (by simp [results, Tryz.results17, go_sem, l0, l1]) rfl ⟨rfl, HBf.out⟩

/-- what Product answers -/
def PrOut (m m' : Syst) (W : World) (B : Nat) (r0 r1 pv : Value) (code : Int) : Prop :=
  (bothS m m' ≠ 0 ∧ code = bothS m m' ∧ r0 = .slice none 0 0 ∧ r1 = .slice none 0 0 ∧ pv = .slice none 0 0) ∨
    (bothS m m' = 0 ∧ code = 2 ∧ (∃ i, PrBad m m' i) ∧ r0 = .slice none 0 0 ∧ r1 = .slice none 0 0 ∧ pv = .slice none 0 0) ∨
    (bothS m m' = 0 ∧ code = 0 ∧ ∃ i, PrOk m m' i ∧ SysOwn W B r0 r1 ⟨m.acts, prRows m m' i⟩ ∧ W.ownsRow B 48 2 pv i (pcells (prQ m m' i)))
section
variable {m m' : Syst} {W W' : World} {B : Nat} {r0 r1 pv : Value} {code : Int}
theorem SysOwn.up {W W' : World} {B : Nat} {va vs : Value} {m : Syst} (h : SysOwn W B va vs m) (hb : Below W.heap.size W W') : SysOwn W' B va vs m := ⟨own_up' h.acts hb, h.rows.below hb⟩
theorem PrOut.up (h : PrOut m m' W B r0 r1 pv code) (hb : Below W.heap.size W W') : PrOut m m' W' B r0 r1 pv code := by
  rcases h with h | h | ⟨h1, h2, i, h3, h4, h5⟩
  · exact .inl h
  · exact .inr (.inl h)
  · exact .inr (.inr ⟨h1, h2, i, h3, h4.up hb, own_up' h5 hb⟩)
theorem PrOut.low {B' : Nat} (h : PrOut m m' W B r0 r1 pv code) (hb : B' ≤ B) : PrOut m m' W B' r0 r1 pv code := by
  rcases h with h | h | ⟨h1, h2, i, h3, h4, h5⟩
  · exact .inl h
  · exact .inr (.inl h)
  · exact .inr (.inr ⟨h1, h2, i, h3, ⟨own_low h4.acts hb, h4.rows.low hb⟩, own_low h5 hb⟩)
/-- behind the store of the system into its block -/
theorem PrOut.put (h : PrOut m m' W B r0 r1 pv code) {g : Nat} {cs : Array Value} (hw : Whole W g 25 cs) (u0 u1 : Value) : PrOut m m' ((W.setCell ⟨g, 0, none⟩ u0).setCell ⟨g, 1, none⟩ u1) B r0 r1 pv code := by
  rcases h with h | h | ⟨h1, h2, i, h3, h4, h5⟩
  · exact .inl h
  · exact .inr (.inl h)
  · exact .inr (.inr ⟨h1, h2, i, h3, sys_stored2 h4 hw u0 u1, own_stored (own_stored h5 hw (by decide)) (hw.set 0 u0) (by decide)⟩)
theorem PrOut.slices (h : PrOut m m' W B r0 r1 pv code) : (∃ x y z, r0 = .slice x y z) ∧ (∃ x y z, r1 = .slice x y z) ∧ ∃ x y z, pv = .slice x y z := by
  rcases h with ⟨_, _, rfl, rfl, rfl⟩ | ⟨_, _, _, rfl, rfl, rfl⟩ | ⟨h1, h2, i, h3, h4, h5⟩
  · exact ⟨⟨_, _, _, rfl⟩, ⟨_, _, _, rfl⟩, ⟨_, _, _, rfl⟩⟩
  · exact ⟨⟨_, _, _, rfl⟩, ⟨_, _, _, rfl⟩, ⟨_, _, _, rfl⟩⟩
  · obtain ⟨x, y, e1⟩ := own_slice' h4.acts
    obtain ⟨_, _, hr, _⟩ := h4.rows
    obtain ⟨x', y', e2⟩ := own_slice' hr
    obtain ⟨x2, y2, e3⟩ := own_slice' h5
    exact ⟨⟨_, _, _, e1⟩, ⟨_, _, _, e2⟩, ⟨_, _, _, e3⟩⟩
end
theorem Product_any {w : World} {a : Option Addr} {n c : Nat} {b : Option Addr} {k d : Nat} {m : Syst} {a' : Option Addr} {n' c' : Nat} {b' : Option Addr} {k' d' : Nat} {m' : Syst} {e0 e1 e2 : Addr} (E : Errs w e0 e1 e2) (A : SysArg w a n c b k d m) (A' : SysArg w a' n' c' b' k' d' m') :
    Calls Tryz.prog 17 #[.agg #[.slice a n c, .slice b k d], .agg #[.slice a' n' c', .slice b' k' d']] w fun e w' => ∃ xa xn xc ya yn yc pa pn pc code, e = .returned (.tuple #[.agg #[.slice xa xn xc, .slice ya yn yc], .slice pa pn pc, .int .i64 code]) ∧ PrOut m m' w' w.heap.size (.slice xa xn xc) (.slice ya yn yc) (.slice pa pn pc) code ∧ Below w.heap.size w w' := by
  by_cases h0 : bothS m m' = 0
  · refine (Product_ok E A A' h0).mono ?_
    rintro e w' ⟨hb, ⟨va, vs, v, i, rfl, hOk, hO, hv⟩ | ⟨i, hBad, rfl⟩⟩
    · have hP : PrOut m m' w' w.heap.size va vs v 0 := .inr (.inr ⟨h0, rfl, i, hOk, hO, hv⟩)
      obtain ⟨⟨_, _, _, rfl⟩, ⟨_, _, _, rfl⟩, ⟨_, _, _, rfl⟩⟩ := hP.slices
      exact ⟨_, _, _, _, _, _, _, _, _, _, rfl, hP, hb⟩
    · exact ⟨_, _, _, _, _, _, _, _, _, _, rfl, .inr (.inl ⟨h0, rfl, ⟨i, hBad⟩, rfl, rfl, rfl⟩), hb⟩
  · refine (Product_bad E A A' h0).mono ?_
    rintro e w' ⟨rfl, hb⟩
    exact ⟨_, _, _, _, _, _, _, _, _, _, rfl, .inl ⟨h0, rfl, rfl, rfl, rfl⟩, hb⟩
end Go.Proofs.YtgnbkepdbdgkdaaGreatDoor
