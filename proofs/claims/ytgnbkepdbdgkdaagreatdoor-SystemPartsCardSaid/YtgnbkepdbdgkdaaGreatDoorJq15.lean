/- Texts joined: SatN. -/
import Derived.Test.YtgnbkepdbdgkdaaGreatDoorJq11
import Derived.Test.YtgnbkepdbdgkdaaGreatDoorJq02
import Derived.Test.YtgnbkepdbdgkdaaGreatDoorJq12
import Derived.Test.YtgnbkepdbdgkdaaGreatDoorJq08
import Derived.Laws.OwnMore
import Derived.OwnWalk
import Derived.Deep.RegionHeld3
import Derived.Deep.RegionLaw
import Derived.Test.YtgnbkepdbdgkdaaGreatDoorJq14
/- spec.newTrial. -/
namespace Go.Proofs.YtgnbkepdbdgkdaaGreatDoor
open Go.RowKit Pl

theorem infoMarks : (Tryz.prog.info? 179).map (fun i => (i.zero, i.size, i.bytes)) = some (some (.agg (Array.replicate 256 (.bool false))), 256, 256) := by kernel_rfl
theorem infoTrial : (Tryz.prog.info? 123).map (fun i => (i.zero, i.size)) = some (some (.agg #[.slice none 0 0, .slice none 0 0, .slice none 0 0, .slice none 0 0, .slice none 0 0, .slice none 0 0]), 6) := by kernel_rfl
/-- a row that is made, inside a region that draws its order -/
theorem step_make_full {P : Program} {ops : Array Oper} {o : Oper} {a : Act} {w : World} {K : Act → World → Prop} {Q : Exit → Act → World → Prop} {E : Prop} (hgd : o.guard = none) (l c : Operand) (t : TypeId) (hop : o.op = Op.makeSlice t l c)
    (base : Nat) (e : TypeId) (i : TypeInfo) (z : Value) (size : Nat) (h1 : P.underlying t = some (.slice e)) (h2 : P.info? e = some i) (h3 : i.zero = some z) (h4 : i.size = size)
    (kl kc : IntKind) (n : Nat) (hl : a.eval l = .int kl (n : Int)) (hc : a.eval c = .int kc (n : Int)) (b2 : i.bytes * n ≤ 281474976710656) (b3 : n ≤ maxLen) (b4 : base ≤ w.heap.size)
    (hK : ∀ w', w'.ownsRow base e size (.slice (some ⟨w.heap.size, 0, none⟩) n n) n (madeCells z.cells (n * size)).toList → w.grownBy w' none → K (a.put o.dst (.slice (some ⟨w.heap.size, 0, none⟩) n n)) w') :
    if Region.wanted o (yielded ops a.tmps) = true then Oper.wp P o a w K Q else E := by
  have hw : Region.wanted o (yielded ops a.tmps) = true := by simp [Region.wanted, hgd]
  rw [if_pos hw]
  obtain ⟨w', hrun, r1, r2⟩ := run_make_full (P := P) w base t e i z size h1 h2 h3 h4 kl kc n b2 b3 b4
  unfold Oper.wp
  simp [execOp, hop, hl, hc, hrun, Result.andThen]
  exact hK _ r1 r2

/-- where newTrial stands: the trial at block G, the marks at block R -/
structure NtAt (w V : World) (G R : Nat) (a : Option Addr) (n c : Nat) (b : Option Addr) (k d : Nat) (a' : Option Addr) (n' c' : Nat) (b' : Option Addr) (k' d' : Nat) (vo : Value) (os : List Int) (P : Nat → Bool) : Prop where
  box : Whole V G 123 #[.slice a n c, .slice b k d, .slice a' n' c', .slice b' k' d', vo, .slice (some ⟨R, 0, none⟩) k' k']
  off : NumO V (w.heap.size + 3) vo os
  row : V.ownsRow w.heap.size 179 256 (.slice (some ⟨R, 0, none⟩) k' k') k' (boolsP (k' * 256) P)
  sys : Whole V w.heap.size 25 #[.slice a n c, .slice b k d]
  spc : Whole V (w.heap.size + 1) 52 #[.slice a' n' c', .slice b' k' d']
  res : Whole V (w.heap.size + 2) 123 #[.slice none 0 0, .slice none 0 0, .slice none 0 0, .slice none 0 0, .slice none 0 0, .slice none 0 0]
  low : w.heap.size + 3 ≤ G ∧ w.heap.size + 3 ≤ R
  below : Below w.heap.size w V
theorem NtAt.put {w V wO wC : World} {G R : Nat} {a : Option Addr} {n c : Nat} {b : Option Addr} {k d : Nat} {a' : Option Addr} {n' c' : Nat} {b' : Option Addr} {k' d' : Nat} {vo v : Value} {os : List Int} {x : Int} {P : Nat → Bool} {o : Obj} (h : NtAt w V G R a n c b k d a' n' c' b' k' d' vo os P)
    (hG : Below V.heap.size V wO) (hgC : (wO.alloc o).grownBy wC vo.ownBlock) (hown : wC.ownsRow (w.heap.size + 3) 3 1 v (os ++ [x]).length ((os ++ [x]).map (Value.int .i64))) : NtAt w (wC.setCell ⟨G, 4, none⟩ v) G R a n c b k d a' n' c' b' k' d' v (os ++ [x]) P := by
  have hg := grown_self wC ⟨G, 4, none⟩ v
  have up : ∀ {g : Nat} {t : TypeId} {cs : Array Value}, Whole V g t cs → 3 ≠ t → Whole wC g t cs := fun hw hne => ((hw.below hG hw.lt).alloc o).grown hgC (own_whole h.off hw hne)
  have hb3 := up h.box (by decide)
  have hrow := ((own_up' h.row hG).alloc o).kept hgC (own_apart h.row h.off (by decide))
  have hB : Below w.heap.size w wC := ((h.below.trans (hG.mono h.below.size)).alloc (Nat.le_trans h.below.size hG.size) o).grown hgC (by have := h.below.size; have := hG.size; simp; omega) (fun q hq => by have := own_ge h.off q hq; omega)
  refine ⟨?_, hown.kept hg (.inr (own_whole hown hb3 (by decide)).symm), hrow.kept hg (.inr (own_whole hrow hb3 (by decide)).symm), ?_, ?_, ?_, h.low, hB.setCell (p := ⟨G, 4, none⟩) (by have := h.low.1; simp only; omega) v⟩
  · have := hb3.set 4 v
    exact this
  · exact (up h.sys (by decide)).far (by have := h.low.1; simp only; omega) v
  · exact (up h.spc (by decide)).far (by have := h.low.1; simp only; omega) v
  · exact (up h.res (by decide)).far (by have := h.low.1; simp only; omega) v
theorem NtAt.up {w V V' : World} {G R : Nat} {a : Option Addr} {n c : Nat} {b : Option Addr} {k d : Nat} {a' : Option Addr} {n' c' : Nat} {b' : Option Addr} {k' d' : Nat} {vo : Value} {os : List Int} {P : Nat → Bool} (h : NtAt w V G R a n c b k d a' n' c' b' k' d' vo os P) (hb : Below V.heap.size V V') : NtAt w V' G R a n c b k d a' n' c' b' k' d' vo os P :=
  ⟨h.box.below hb h.box.lt, own_up' h.off hb, own_up' h.row hb, h.sys.below hb h.sys.lt, h.spc.below hb h.spc.lt, h.res.below hb h.res.lt, h.low, h.below.trans (hb.mono h.below.size)⟩
theorem NtAt.congr {w V : World} {G R : Nat} {a : Option Addr} {n c : Nat} {b : Option Addr} {k d : Nat} {a' : Option Addr} {n' c' : Nat} {b' : Option Addr} {k' d' : Nat} {vo : Value} {os : List Int} {P Q : Nat → Bool} (h : NtAt w V G R a n c b k d a' n' c' b' k' d' vo os P) (he : ∀ i, i < k' * 256 → P i = Q i) : NtAt w V G R a n c b k d a' n' c' b' k' d' vo os Q :=
  ⟨h.box, h.off, by rw [← boolsP_congr he]; exact h.row, h.sys, h.spc, h.res, h.low, h.below⟩
theorem NtAt.mark {w V : World} {G R : Nat} {a : Option Addr} {n c : Nat} {b : Option Addr} {k d : Nat} {a' : Option Addr} {n' c' : Nat} {b' : Option Addr} {k' d' : Nat} {vo : Value} {os : List Int} {P : Nat → Bool} (h : NtAt w V G R a n c b k d a' n' c' b' k' d' vo os P) {j : Nat} (hj : j < k' * 256) : NtAt w (V.setCell ⟨R, j, none⟩ (.bool true)) G R a n c b k d a' n' c' b' k' d' vo os (fun i => P i || decide (i = j)) := by
  have h1 := h.row.stored j (.bool true)
  rw [boolsP_set _ hj] at h1
  have far : ∀ {g : Nat} {t : TypeId} {cs : Array Value}, Whole V g t cs → 179 ≠ t → Whole (V.setCell ⟨R, j, none⟩ (.bool true)) g t cs := fun hw hne => hw.grown h1.2 (own_whole h.row hw hne)
  exact ⟨far h.box (by decide), h.off.kept h1.2 (own_apart h.off h.row (by decide)), h1.1, far h.sys (by decide), far h.spc (by decide), far h.res (by decide), h.low, h.below.setCell (p := ⟨R, j, none⟩) (by have := h.low.2; simp only; omega) _⟩
theorem made_marks (k : Nat) : (madeCells (Value.agg (Array.replicate 256 (.bool false))).cells (k * 256)).toList = boolsP (k * 256) (fun _ => false) := by
  refine List.ext_getElem (by simp [madeCells, boolsP]) fun i h1 h2 => ?_
  have h3 : i % 256 < 256 := Nat.mod_lt _ (by decide)
  simp [madeCells, Value.cells, boolsP, h3]
/-- which sets the states accept, row by row -/
def accP (s : Spc) (i : Nat) : Bool := decide (((i % 256 : Nat) : Int) ∈ (teAt s.states (i / 256)).1)
/-- .. the first y states, and the first z sets of the next one -/
def accT (s : Spc) (y z i : Nat) : Bool := (decide (i / 256 < y) && accP s i) || (decide (i / 256 = y) && decide (((i % 256 : Nat) : Int) ∈ (teAt s.states y).1.take z))
theorem accT_zero (s : Spc) (i : Nat) : accT s 0 0 i = false := by simp [accT]
theorem accT_step (s : Spc) (y z : Nat) (X : Nat) (hX : X < 256) (hz : z < (teAt s.states y).1.length) (he : (teAt s.states y).1.getD z 0 = (X : Int)) (i : Nat) : accT s y (z + 1) i = (accT s y z i || decide (i = y * 256 + X)) := by
  unfold accT
  rw [take_next _ z 0 hz, he]
  have h1 : (((i % 256 : Nat) : Int) ∈ (teAt s.states y).1.take z ++ [(X : Int)]) ↔ (((i % 256 : Nat) : Int) ∈ (teAt s.states y).1.take z ∨ i % 256 = X) := by
    rw [List.mem_append, List.mem_singleton]
    constructor
    · rintro (h | h)
      · exact .inl h
      · exact .inr (by omega)
    · rintro (h | h)
      · exact .inl h
      · exact .inr (by omega)
  have h2 : decide (i = y * 256 + X) = (decide (i / 256 = y) && decide (i % 256 = X)) := by
    rw [Bool.eq_iff_iff, Bool.and_eq_true, decide_eq_true_iff, decide_eq_true_iff, decide_eq_true_iff]
    omega
  rw [h2, Bool.eq_iff_iff]
  simp only [Bool.or_eq_true, Bool.and_eq_true, decide_eq_true_eq, h1]
  constructor
  · rintro (h | ⟨h, h' | h'⟩)
    · exact .inl (.inl h)
    · exact .inl (.inr ⟨h, h'⟩)
    · exact .inr ⟨h, h'⟩
  · rintro ((h | ⟨h, h'⟩) | ⟨h, h'⟩)
    · exact .inl h
    · exact .inr ⟨h, .inl h'⟩
    · exact .inr ⟨h, .inr h'⟩
theorem accT_row (s : Spc) (y i : Nat) : accT s y (teAt s.states y).1.length i = accT s (y + 1) 0 i := by
  unfold accT
  rw [List.take_length, List.take_zero]
  by_cases h : i / 256 = y
  · subst h
    have h1 : decide (i / 256 < i / 256) = false := decide_eq_false (by omega)
    have h2 : decide (i / 256 < i / 256 + 1) = true := decide_eq_true (by omega)
    rw [h1, h2]
    simp [accP]
  · have h1 : decide (i / 256 = y) = false := decide_eq_false h
    have h2 : decide (i / 256 < y + 1) = decide (i / 256 < y) := decide_eq_decide.2 (by omega)
    rw [h1, h2]
    simp
theorem accT_all (s : Spc) (k i : Nat) (h : i < k * 256) : accT s k 0 i = accP s i := by
  unfold accT
  rw [decide_eq_true (show i / 256 < k by omega)]
  simp
/-- what offered of each state makes -/
def offL (m : Syst) : List Int := m.states.map fun l => ((offS l : Nat) : Int)

set_option maxRecDepth 100000 in
set_option maxHeartbeats 8000000 in
theorem newTrial_ok {w : World} {a : Option Addr} {n c : Nat} {b : Option Addr} {k d : Nat} {m : Syst} {a' : Option Addr} {n' c' : Nat} {b' : Option Addr} {k' d' : Nat} {s : Spc} {e0 e1 e2 : Addr} (E : Errs w e0 e1 e2) (A : SysArg w a n c b k d m) (A' : SpecArg w a' n' c' b' k' d' s) (hm : sysB m = true) (hs : spcB s = true) (ha : m.acts = s.acts) :
    Calls Tryz.prog 61 #[.agg #[.slice a n c, .slice b k d], .agg #[.slice a' n' c', .slice b' k' d']] w fun e w' => ∃ vo R, e = .returned (.tuple #[.agg #[.slice a n c, .slice b k d, .slice a' n' c', .slice b' k' d', vo, .slice (some ⟨R, 0, none⟩) k' k'], .int .i64 0]) ∧
      NumO w' w.heap.size vo (offL m) ∧ w'.ownsRow w.heap.size 179 256 (.slice (some ⟨R, 0, none⟩) k' k') k' (boolsP (k' * 256) (accP s)) ∧ Below w.heap.size w w' := by
  obtain ⟨i1, hi1, hz10, hz11, hz12⟩ := info_parts infoNumS
  obtain ⟨i2, hi2, hz20, hz21, hz22⟩ := info_parts infoMarks
  have hk5 : k ≤ 5000 := by have := ((sysB_iff m).1 hm).2.2.1; have := A.len; omega
  have hk5' : k' ≤ 500 := by have := ((spcB_iff s).1 hs).2.2.1; have := A'.len; omega
  have hB := (Below.refl w.heap.size w).alloc (Nat.le_refl _) (.cells #[.slice a n c, .slice b k d] 25)
  have hB2 := hB.alloc (by simp) (.cells #[.slice a' n' c', .slice b' k' d'] 52)
  have hB3 := hB2.alloc (by simp; omega) (.cells #[.slice none 0 0, .slice none 0 0, .slice none 0 0, .slice none 0 0, .slice none 0 0, .slice none 0 0] 123)
  have hW1 := ((Whole.new w 25 #[.slice a n c, .slice b k d]).alloc (.cells #[.slice a' n' c', .slice b' k' d'] 52)).alloc (.cells #[.slice none 0 0, .slice none 0 0, .slice none 0 0, .slice none 0 0, .slice none 0 0, .slice none 0 0] 123)
  have hW2 := (Whole.new (w.alloc (.cells #[.slice a n c, .slice b k d] 25)) 52 #[.slice a' n' c', .slice b' k' d']).alloc (.cells #[.slice none 0 0, .slice none 0 0, .slice none 0 0, .slice none 0 0, .slice none 0 0, .slice none 0 0] 123)
  have hW3 := Whole.new ((w.alloc (.cells #[.slice a n c, .slice b k d] 25)).alloc (.cells #[.slice a' n' c', .slice b' k' d'] 52)) 123 #[.slice none 0 0, .slice none 0 0, .slice none 0 0, .slice none 0 0, .slice none 0 0, .slice none 0 0]
  simp only [World.size_alloc] at hW2 hW3
  obtain ⟨w0, HW0⟩ : ∃ z, Hid (((w.alloc (.cells #[.slice a n c, .slice b k d] 25)).alloc (.cells #[.slice a' n' c', .slice b' k' d'] 52)).alloc (.cells #[.slice none 0 0, .slice none 0 0, .slice none 0 0, .slice none 0 0, .slice none 0 0, .slice none 0 0] 123) = z) := ⟨_, Lib.hid rfl⟩
  have hz0 : w0.heap.size = w.heap.size + 3 := by rw [← HW0.out]; simp
  rw [HW0.out] at hB3 hW1 hW2 hW3
  have HC1 := SCheck_any (E.below hB3) (A.below hB3)
  rw [chk_yes hm] at HC1
  have HC1 := Lib.hid HC1
  have HA := Lib.hid A
  have HA' := Lib.hid A'
  have HE := Lib.hid E
  have HM := Lib.hid hm
  have HSs := Lib.hid hs
  have HAc := Lib.hid ha
  have HB0 := Lib.hid hB3
  have HW1 := Lib.hid hW1
  have HW2 := Lib.hid hW2
  have HW3 := Lib.hid hW3
  have HZ0 := Lib.hid hz0
  have hEq : decide (m.acts = s.acts) = true := decide_eq_true ha
  have HEq := Lib.hid hEq
  clear hB hB2 hB3 A A' E hW1 hW2 hW3 hz0 hm hs ha hEq
  go_enter Tryz.func61, Tryz.ntmps61
  go_wp2_with fail
  rw [HW0.out]
  refine HC1.out.mono ?_
  rintro e w1 ⟨rfl, hb1⟩
  have HB1 := Lib.hid (HB0.out.trans (hb1.mono HB0.out.size))
  have hz1 : w.heap.size + 3 ≤ w1.heap.size := by have := hb1.size; have := HZ0.out; omega
  have HX1 := Lib.hid (HW1.out.below hb1 HW1.out.lt)
  have HX2 := Lib.hid (HW2.out.below hb1 HW2.out.lt)
  have HX3 := Lib.hid (HW3.out.below hb1 HW3.out.lt)
  have p0 := HX2.out.cell 0
  have p1 := HX2.out.cell 1
  simp only [List.getElem?_toArray, List.getElem?_cons_succ, List.getElem?_cons_zero] at p0 p1
  have HC2 := PCheck_any (HE.out.below HB1.out) (HA'.out.below HB1.out)
  rw [chkS_yes HSs.out] at HC2
  have HC2 := Lib.hid HC2
  clear hb1
  go_wp2_with fail
  refine HC2.out.mono ?_
  rintro e w2 ⟨rfl, hb2⟩
  have HB2 := Lib.hid (HB1.out.trans (hb2.mono HB1.out.size))
  have hz2 : w.heap.size + 3 ≤ w2.heap.size := by have := hb2.size; omega
  have HY1 := Lib.hid (HX1.out.below hb2 HX1.out.lt)
  have HY2 := Lib.hid (HX2.out.below hb2 HX2.out.lt)
  have HY3 := Lib.hid (HX3.out.below hb2 HX3.out.lt)
  have q0 := HY1.out.cell 0
  have q1 := HY2.out.cell 0
  simp only [List.getElem?_toArray, List.getElem?_cons_zero] at q0 q1
  have HC3 := eqStr_any (HA.out.acts.below HB2.out) (HA'.out.acts.below HB2.out)
  rw [HEq.out] at HC3
  have HC3 := Lib.hid HC3
  clear hb2 p0 p1
  go_wp2_with fail
  refine HC3.out.mono ?_
  rintro e w3 ⟨rfl, hb3⟩
  have HB3 := Lib.hid (HB2.out.trans (hb3.mono HB2.out.size))
  have hz3 : w.heap.size + 3 ≤ w3.heap.size := by have := hb3.size; omega
  have HT1 := Lib.hid (HY1.out.below hb3 HY1.out.lt)
  have HT2 := Lib.hid (HY2.out.below hb3 HY2.out.lt)
  have HT3 := Lib.hid (HY3.out.below hb3 HY3.out.lt)
  have r0 := HT1.out.cell 0
  have r1 := HT1.out.cell 1
  have r2 := HT2.out.cell 0
  have r3 := HT2.out.cell 1
  simp only [List.getElem?_toArray, List.getElem?_cons_succ, List.getElem?_cons_zero] at r0 r1 r2 r3
  clear hb3 q0 q1
  obtain ⟨M, HMk⟩ : ∃ z : Array Value, Hid (madeCells (Value.agg (Array.replicate 256 (.bool false))).cells (k' * 256) = z) := ⟨_, Lib.hid rfl⟩
  have hmk : ∀ W : World, (Instr.makeSlice 121 (.int .i64 k') (.int .i64 k')).run Tryz.prog W = .ok (.slice (some ⟨W.heap.size, 0, none⟩) k' k') (W.alloc (.cells M 179)) := fun W => by
    have h := run_makeSlice W 121 179 i2 (.agg (Array.replicate 256 (.bool false))) Tryz.underlying121 hi2 hz20 .i64 .i64 k' k' (by omega) (Int.le_refl _) (by rw [hz21]; omega) (by rw [hz22]; omega) (by omega)
    rw [hz21] at h
    simp only [Int.toNat_natCast] at h
    rw [HMk.out] at h
    exact h
  have hZT : ∀ (G R : Nat) (V : World), w3.heap.size ≤ G → w3.heap.size ≤ R → Below w3.heap.size w3 V → Whole V G 123 #[.slice a n c, .slice b k d, .slice a' n' c', .slice b' k' d', .slice none 0 0, .slice (some ⟨R, 0, none⟩) k' k'] → V.heap[R]? = some (.cells M 179 (0, 0)) →
      NtAt w V G R a n c b k d a' n' c' b' k' d' (.slice none 0 0) [] (fun _ => false) := fun G R V h1 h2 h3 h4 h5 => by
    refine ⟨h4, World.ownsRow_nil _ _ _ _, ?_, HT1.out.below h3 (by omega), HT2.out.below h3 (by omega), HT3.out.below h3 (by omega), ⟨by omega, by omega⟩, HB3.out.trans (h3.mono (by omega))⟩
    have hM : M.toList = boolsP (k' * 256) (fun _ => false) := by rw [← HMk.out]; exact made_marks k'
    refine ⟨by simp [boolsP], .inr ⟨R, k', M, rfl, by omega, h5, Nat.le_refl _, by unfold maxLen; omega, ?_, ?_⟩⟩
    · have := congrArg List.length hM
      simpa [boolsP] using this
    · rw [← hM]
      exact List.take_of_length_le (by rw [hM]; simp [boolsP])
  have HZT := Lib.hid hZT
  clear hZT
  go_wp2
  go_region_held3 (fun w' => w'.cell? ⟨w.heap.size, 0, none⟩ = some (.slice a n c) ∧ w'.cell? ⟨w.heap.size, 1, none⟩ = some (.slice b k d) ∧ w'.cell? ⟨w.heap.size + 1, 0, none⟩ = some (.slice a' n' c') ∧ w'.cell? ⟨w.heap.size + 1, 1, none⟩ = some (.slice b' k' d'))
    ((first | assumption | go_keep))
    (fail)
  all_goals
    first
      | (have hN := HZT.out (w3.heap.size + 1) w3.heap.size ((w3.alloc (.cells M 179)).alloc (.cells #[.slice a n c, .slice b k d, .slice a' n' c', .slice b' k' d', .slice none 0 0, .slice (some ⟨w3.heap.size, 0, none⟩) k' k'] 123)).drew (by omega) (Nat.le_refl _) (((Below.refl _ w3).alloc (Nat.le_refl _) _).alloc (by simp) _).drew (by have := Whole.new (w3.alloc (.cells M 179)) 123 #[.slice a n c, .slice b k d, .slice a' n' c', .slice b' k' d', .slice none 0 0, .slice (some ⟨w3.heap.size, 0, none⟩) k' k']; rw [World.size_alloc] at this; exact this) (by have := (Whole.new w3 179 M).alloc (.cells #[.slice a n c, .slice b k d, .slice a' n' c', .slice b' k' d', .slice none 0 0, .slice (some ⟨w3.heap.size, 0, none⟩) k' k'] 123); exact this)
         obtain ⟨V, hV⟩ : ∃ V, ((w3.alloc (.cells M 179)).alloc (.cells #[.slice a n c, .slice b k d, .slice a' n' c', .slice b' k' d', .slice none 0 0, .slice (some ⟨w3.heap.size, 0, none⟩) k' k'] 123)).drew = V := ⟨_, rfl⟩
         rw [hV] at hN ⊢
         obtain ⟨G, hG⟩ : ∃ G, w3.heap.size + 1 = G := ⟨_, rfl⟩
         rw [hG] at hN ⊢
         obtain ⟨R, hR⟩ : ∃ R, w3.heap.size = R := ⟨_, rfl⟩
         rw [hR] at hN ⊢)
      | (have hN := HZT.out w3.heap.size (w3.heap.size + 1) ((w3.alloc (.cells #[.slice a n c, .slice b k d, .slice a' n' c', .slice b' k' d', .slice none 0 0, .slice (some ⟨w3.heap.size + 1, 0, none⟩) k' k'] 123)).alloc (.cells M 179)).drew (Nat.le_refl _) (by omega) (((Below.refl _ w3).alloc (Nat.le_refl _) _).alloc (by simp) _).drew (by have := (Whole.new w3 123 #[.slice a n c, .slice b k d, .slice a' n' c', .slice b' k' d', .slice none 0 0, .slice (some ⟨w3.heap.size + 1, 0, none⟩) k' k']).alloc (.cells M 179); exact this) (by have := Whole.new (w3.alloc (.cells #[.slice a n c, .slice b k d, .slice a' n' c', .slice b' k' d', .slice none 0 0, .slice (some ⟨w3.heap.size + 1, 0, none⟩) k' k'] 123)) 179 M; rw [World.size_alloc] at this; exact this)
         obtain ⟨V, hV⟩ : ∃ V, ((w3.alloc (.cells #[.slice a n c, .slice b k d, .slice a' n' c', .slice b' k' d', .slice none 0 0, .slice (some ⟨w3.heap.size + 1, 0, none⟩) k' k'] 123)).alloc (.cells M 179)).drew = V := ⟨_, rfl⟩
         rw [hV] at hN ⊢
         obtain ⟨R, hR⟩ : ∃ R, w3.heap.size + 1 = R := ⟨_, rfl⟩
         rw [hR] at hN ⊢
         obtain ⟨G, hG⟩ : ∃ G, w3.heap.size = G := ⟨_, rfl⟩
         rw [hG] at hN ⊢)
    have HN := Lib.hid hN
    have s1 := hN.sys.cell 1
    simp only [List.getElem?_toArray, List.getElem?_cons_succ, List.getElem?_cons_zero] at s1
    have hsl := hN.sys.lt
    clear hV hR hG hN r0 r1 r2 r3 hmk HZT
    go_wp2
    go_loopw [8, 41] (fun _ i wr => ∃ (y : Nat) (vo : Value), i = .int .i64 y ∧ y ≤ k ∧ Hid (NtAt w wr G R a n c b k d a' n' c' b' k' d' vo ((offL m).take y) (fun _ => false))) (fun _ i _ => k - (intOf i).toNat)
    case atStart => exact ⟨0, _, rfl, Nat.zero_le _, HN⟩
    case round =>
      obtain ⟨y, vo, rfl, hy, HNr⟩ := hrel
      have HBr := Lib.hid HNr.out.below
      have hzr := HNr.out.below.size
      have hGl := HNr.out.box.lt
      have hlw := HNr.out.low
      have hoff := HNr.out.off
      have hlen : ((offL m).take y).length = y := by
        have h1 : (offL m).length = k := by unfold offL; rw [List.length_map]; exact HA.out.len.symm
        rw [List.length_take, h1]; omega
      unfold NumO at hoff
      rw [hlen] at hoff
      obtain ⟨oa, oc, rfl⟩ := own_slice' hoff
      have u2 := HNr.out.box.cell 4
      simp only [List.getElem?_toArray, List.getElem?_cons_succ, List.getElem?_cons_zero] at u2
      by_cases hlt : y < k
      · obtain ⟨bx2, off2, rfl, ai, ni, ci, c0, hE⟩ := HA.out.rows y (by have := HA.out.len; omega)
        have c1 : wr.cell? ⟨bx2, off2 + y, none⟩ = some (.slice ai ni ci) := (HBr.out.cell (lt_of_cell c0)).trans c0
        have hyl : y < m.states.length := by have := HA.out.len; omega
        have h8m := ((actsB_iff m.acts).1 ((sysB_iff m).1 HM.out).1).1
        have hed : ∀ q, q < (stAt m.states y).length → 0 ≤ (edAt (stAt m.states y) q).1 ∧ (edAt (stAt m.states y) q).1 < 8 := fun q hq => by
          obtain ⟨g1, g2, _, _⟩ := edge_ok HM.out hyl hq
          omega
        obtain ⟨O, HO⟩ : ∃ O, Hid (offS (stAt m.states y) = O) := ⟨_, Lib.hid rfl⟩
        have HOff : Hid (∀ W, Below wr.heap.size wr W → Calls Tryz.prog 72 #[.slice ai ni ci] W fun e w' => e = .returned (.int .i64 O) ∧ Below W.heap.size W w') := Lib.hid fun W hb => by
          have h1 := offered_any ((hE.below HBr.out).below hb) hed
          rw [show offN (stAt m.states y) = offS (stAt m.states y) from rfl, HO.out] at h1
          exact h1
        have HOW := Lib.hid hoff
        have hnx : Hid (((offL m).take y) ++ [(O : Int)] = (offL m).take (y + 1)) := Lib.hid (by
          rw [take_next (offL m) y 0 (by unfold offL; rw [List.length_map]; exact hyl)]
          congr 2
          unfold offL
          rw [List.getD_eq_getElem?_getD, List.getElem?_map, List.getElem?_eq_getElem hyl, ← HO.out]
          simp [stAt, List.getD, hyl])
        have hGne : Hid ((Value.slice oa y oc).ownBlock = none ∨ (Value.slice oa y oc).ownBlock ≠ some G) := Lib.hid (.inr (own_whole hoff HNr.out.box (by decide)).symm)
        have hy0 : (0 : Int) ≤ (y : Int) := by omega
        have hy1 : (y : Int) < (k : Int) := by omega
        clear c0 hE hed hoff
        go_wp2
        go_region_law (first
          | (refine step_append_sz rfl (.tmp 46) (.tmp 49) 28 (by rfl) (w.heap.size + 3) 3 i1 (.int .i64 0) 1 8 Tryz.underlying28 hi1 hz10 hz11 hz12 rfl (by decide) (.slice oa y oc) (by rfl) y (((offL m).take y).map (Value.int .i64)) ((own_up' HOW.out hG).alloc _) (some ⟨_, 0, none⟩) 1 1 (by rfl) [.int .i64 O] (fun h => by cases h) rfl (one_src _ _ _) (by simp [Value.oneCell']) (by unfold maxLen; omega) (by omega) (by have := hG.size; simp; omega) ?_; intro v wC hC hgC hatC; clear hatC; obtain ⟨va, vc, rfl⟩ := own_slice' hC; have kW := ((HNr.out.box.below hG hGl).alloc (.cells #[.int .i64 O] 3)).grown hgC (by rcases hGne.out with h | h <;> (first | (rw [h]; simp) | exact fun e => h e.symm)); have k7 := kW.cell 4; have k8 := kW.frozen 4; simp only [List.getElem?_toArray, List.getElem?_cons_succ, List.getElem?_cons_zero] at k7)
          | (go_simp; refine (HOff.out _ (Below.refl _ wr).drew).mono ?_; rintro e wO ⟨rfl, hbO⟩; have hG := below_two (Below.refl wr.heap.size wr).drew hbO; have u2O : wO.cell? ⟨G, 4, none⟩ = some (.slice oa y oc) := up_cell hG u2; have u2P := cell_new u2O (.cells #[.int .i64 O] 3); dsimp only))
        all_goals
          have HNx : Hid (NtAt w (wC.setCell ⟨G, 4, none⟩ (.slice va (y + 1) vc)) G R a n c (some ⟨bx2, off2, none⟩) k d a' n' c' b' k' d' (.slice va (y + 1) vc) ((offL m).take (y + 1)) (fun _ => false)) := Lib.hid (by
            have h1 := HNr.out.put hG hgC (x := (O : Int)) (v := .slice va (y + 1) vc) (by rw [List.length_append, hlen, List.map_append]; exact hC)
            rw [hnx.out] at h1
            exact h1)
          clear hC hgC hG hbO k7 k8 kW u2O u2P
          go_wp2
          go_roundw
          case rel => exact ⟨y + 1, _, by go_num, by omega, HNx⟩
          case measure => simp [intOf]; omega
      · have HNf : Hid (NtAt w wr G R a n c b k d a' n' c' b' k' d' (.slice oa k oc) (offL m) (fun _ => false)) := Lib.hid (by
          have h1 := HNr.out
          have h2 : y = k := by omega
          rw [h2] at h1
          rw [List.take_of_length_le (by unfold offL; rw [List.length_map]; have := HA.out.len; omega)] at h1
          exact h1)
        have u3 := HNf.out.spc.cell 1
        simp only [List.getElem?_toArray, List.getElem?_cons_succ, List.getElem?_cons_zero] at u3
        have hsl2 := HNf.out.spc.lt
        obtain ⟨V1, hV1⟩ : ∃ z, z = wr := ⟨_, rfl⟩
        subst hV1
        clear hoff u2 hlw
        go_wp2
        go_loopw [9, 10, 12, 56, 64] (fun _ _ _ i _ wr => ∃ y : Nat, i = .int .i64 y ∧ y ≤ k' ∧ Hid (NtAt w wr G R a n c b k d a' n' c' b' k' d' (.slice oa k oc) (offL m) (accT s y 0))) (fun _ _ _ i _ _ => k' - (intOf i).toNat)
        case atStart => exact ⟨0, rfl, Nat.zero_le _, Lib.hid (HNf.out.congr (fun i _ => (accT_zero s i).symm))⟩
        case round =>
          obtain ⟨y, rfl, hy, HNy⟩ := hrel
          obtain ⟨V2, hV2⟩ : ∃ z, z = wr := ⟨_, rfl⟩
          subst hV2
          have hBy := HNy.out.below
          have hzy := hBy.size
          have HBy := Lib.hid hBy
          clear hBy
          by_cases hlt2 : y < k'
          · have hys : y < s.states.length := by have := HA'.out.len; omega
            obtain ⟨bx3, off3, rfl, a1, n1, c1, a2, n2, c2, d1, d2, hN1, hN2⟩ := HA'.out.rows y hys
            have e1 : V2.cell? ⟨bx3, off3 + y * 2, none⟩ = some (.slice a1 n1 c1) := (HBy.out.cell (lt_of_cell d1)).trans d1
            have e2 : V2.cell? ⟨bx3, off3 + y * 2 + 1, none⟩ = some (.slice a2 n2 c2) := (HBy.out.cell (lt_of_cell d2)).trans d2
            have HN1 := Lib.hid hN1
            have HLn := Lib.hid hN1.arg.len
            have HSt := Lib.hid (ste_facts (((spcB_iff s).1 HSs.out).2.2.2 y hys) hN1.le)
            have h8 := ((actsB_iff s.acts).1 ((spcB_iff s).1 HSs.out).1).1
            have hpow : 2 ^ s.acts.length ≤ 2 ^ 8 := Nat.pow_le_pow_right (by decide) h8
            have HPw := Lib.hid hpow
            have HNa : Hid (NtAt w (V2.alloc (.cells #[.slice a1 n1 c1, .slice a2 n2 c2] 119)) G R a n c b k d a' n' c' (some ⟨bx3, off3, none⟩) k' d' (.slice oa k oc) (offL m) (accT s y 0)) := Lib.hid (HNy.out.up ((Below.refl _ V2).alloc (Nat.le_refl _) _))
            have hn1 : n1 ≤ 17592186044416 := hN1.few
            have hy0 : (0 : Int) ≤ (y : Int) := by omega
            have hy1 : (y : Int) < (k' : Int) := by omega
            clear d1 d2 hN1 hN2 hpow h8
            go_wp2
            go_loopw [12, 64] (fun _ i wr => ∃ z : Nat, i = .int .i64 z ∧ z ≤ n1 ∧ Hid (NtAt w wr G R a n c b k d a' n' c' (some ⟨bx3, off3, none⟩) k' d' (.slice oa k oc) (offL m) (accT s y z))) (fun _ i _ => n1 - (intOf i).toNat)
            case atStart => exact ⟨0, rfl, Nat.zero_le _, HNa⟩
            case round =>
              obtain ⟨z, rfl, hz, HNz⟩ := hrel
              have HBz := Lib.hid HNz.out.below
              by_cases hlt3 : z < n1
              · obtain ⟨bs, os, rfl, f1⟩ := (HN1.out.arg.below HBz.out).cells z (by have := HLn.out; omega)
                obtain ⟨X', HX⟩ : ∃ q, Hid ((teAt s.states y).1.getD z 0 = q) := ⟨_, Lib.hid rfl⟩
                have hXs := HSt.out.2.1 X' (by rw [← HX.out, List.getD_eq_getElem?_getD, List.getElem?_eq_getElem (by have := HLn.out; omega)]; exact List.getElem_mem _)
                obtain ⟨X, hX⟩ : ∃ X : Nat, X' = (X : Int) := ⟨X'.toNat, by omega⟩
                have hX8 : X < 256 := by have := HPw.out; omega
                have HXe : Hid ((teAt s.states y).1.getD z 0 = (X : Int)) := Lib.hid (by rw [HX.out, hX])
                rw [HXe.out] at f1
                have g5 := HNz.out.box.cell 5
                simp only [List.getElem?_toArray, List.getElem?_cons_succ, List.getElem?_cons_zero] at g5
                have hj : y * 256 + X < k' * 256 := by omega
                have r1 := HNz.out.row.cellAt (y * 256 + X) hj
                rw [boolsP_at _ hj] at r1
                have r2 := HNz.out.row.frozenAt (y * 256 + X)
                have HNn : Hid (NtAt w (wr.setCell ⟨R, y * 256 + X, none⟩ (.bool true)) G R a n c b k d a' n' c' (some ⟨bx3, off3, none⟩) k' d' (.slice oa k oc) (offL m) (accT s y (z + 1))) := Lib.hid ((HNz.out.mark hj).congr (fun i _ => (accT_step s y z X hX8 (by have := HLn.out; omega) HXe.out i).symm))
                have hX0 : (0 : Int) ≤ (X : Int) := by omega
                have hX1 : (X : Int) < 256 := by omega
                clear hXs hX
                go_wp2
                go_roundw
                case rel => exact ⟨z + 1, by go_num, by omega, HNn⟩
                case measure => simp [intOf]; omega
              · have HNn : Hid (NtAt w wr G R a n c b k d a' n' c' (some ⟨bx3, off3, none⟩) k' d' (.slice oa k oc) (offL m) (accT s (y + 1) 0)) := Lib.hid (HNz.out.congr (fun i _ => by
                  rw [← accT_row]
                  have : z = (teAt s.states y).1.length := by have := HLn.out; omega
                  rw [this]))
                go_wp2
                go_roundw
                case rel => exact ⟨y + 1, by go_num, by omega, HNn⟩
                case measure => simp [intOf]; omega
          · have HNe : Hid (NtAt w V2 G R a n c b k d a' n' c' b' k' d' (.slice oa k oc) (offL m) (accP s)) := Lib.hid (by
              have h2 : y = k' := by omega
              have h1 := HNy.out
              rw [h2] at h1
              exact h1.congr (fun i hi => accT_all s k' i hi))
            have hbx := HNe.out.box
            have hrs := HNe.out.res
            have g0 := hbx.cell 0
            have m0 := hrs.cell 0
            have fz0 := hrs.frozen 0
            have g1 := hbx.cell 1
            have m1 := hrs.cell 1
            have fz1 := hrs.frozen 1
            have g2 := hbx.cell 2
            have m2 := hrs.cell 2
            have fz2 := hrs.frozen 2
            have g3 := hbx.cell 3
            have m3 := hrs.cell 3
            have fz3 := hrs.frozen 3
            have g4 := hbx.cell 4
            have m4 := hrs.cell 4
            have fz4 := hrs.frozen 4
            have g5 := hbx.cell 5
            have m5 := hrs.cell 5
            have fz5 := hrs.frozen 5
            have l0 := ((((((hrs.set 0 (.slice a n c)).set 1 (.slice b k d)).set 2 (.slice a' n' c')).set 3 (.slice b' k' d')).set 4 (.slice oa k oc)).set 5 (.slice (some ⟨R, 0, none⟩) k' k')).cell 0
            have l1 := ((((((hrs.set 0 (.slice a n c)).set 1 (.slice b k d)).set 2 (.slice a' n' c')).set 3 (.slice b' k' d')).set 4 (.slice oa k oc)).set 5 (.slice (some ⟨R, 0, none⟩) k' k')).cell 1
            have l2 := ((((((hrs.set 0 (.slice a n c)).set 1 (.slice b k d)).set 2 (.slice a' n' c')).set 3 (.slice b' k' d')).set 4 (.slice oa k oc)).set 5 (.slice (some ⟨R, 0, none⟩) k' k')).cell 2
            have l3 := ((((((hrs.set 0 (.slice a n c)).set 1 (.slice b k d)).set 2 (.slice a' n' c')).set 3 (.slice b' k' d')).set 4 (.slice oa k oc)).set 5 (.slice (some ⟨R, 0, none⟩) k' k')).cell 3
            have l4 := ((((((hrs.set 0 (.slice a n c)).set 1 (.slice b k d)).set 2 (.slice a' n' c')).set 3 (.slice b' k' d')).set 4 (.slice oa k oc)).set 5 (.slice (some ⟨R, 0, none⟩) k' k')).cell 4
            have l5 := ((((((hrs.set 0 (.slice a n c)).set 1 (.slice b k d)).set 2 (.slice a' n' c')).set 3 (.slice b' k' d')).set 4 (.slice oa k oc)).set 5 (.slice (some ⟨R, 0, none⟩) k' k')).cell 5
            simp only [List.setIfInBounds_toArray, List.set_cons_zero, List.set_cons_succ, List.getElem?_toArray, List.getElem?_cons_succ, List.getElem?_cons_zero] at g0 g1 g2 g3 g4 g5 m0 m1 m2 m3 m4 m5 l0 l1 l2 l3 l4 l5
            have hgr := (((((grown_self V2 ⟨w.heap.size + 2, 0, none⟩ (.slice a n c)).trans (grown_self (V2.setCell ⟨w.heap.size + 2, 0, none⟩ (.slice a n c)) ⟨w.heap.size + 2, 1, none⟩ (.slice b k d))).trans (grown_self ((V2.setCell ⟨w.heap.size + 2, 0, none⟩ (.slice a n c)).setCell ⟨w.heap.size + 2, 1, none⟩ (.slice b k d)) ⟨w.heap.size + 2, 2, none⟩ (.slice a' n' c'))).trans (grown_self (((V2.setCell ⟨w.heap.size + 2, 0, none⟩ (.slice a n c)).setCell ⟨w.heap.size + 2, 1, none⟩ (.slice b k d)).setCell ⟨w.heap.size + 2, 2, none⟩ (.slice a' n' c')) ⟨w.heap.size + 2, 3, none⟩ (.slice b' k' d'))).trans (grown_self ((((V2.setCell ⟨w.heap.size + 2, 0, none⟩ (.slice a n c)).setCell ⟨w.heap.size + 2, 1, none⟩ (.slice b k d)).setCell ⟨w.heap.size + 2, 2, none⟩ (.slice a' n' c')).setCell ⟨w.heap.size + 2, 3, none⟩ (.slice b' k' d')) ⟨w.heap.size + 2, 4, none⟩ (.slice oa k oc))).trans (grown_self (((((V2.setCell ⟨w.heap.size + 2, 0, none⟩ (.slice a n c)).setCell ⟨w.heap.size + 2, 1, none⟩ (.slice b k d)).setCell ⟨w.heap.size + 2, 2, none⟩ (.slice a' n' c')).setCell ⟨w.heap.size + 2, 3, none⟩ (.slice b' k' d')).setCell ⟨w.heap.size + 2, 4, none⟩ (.slice oa k oc)) ⟨w.heap.size + 2, 5, none⟩ (.slice (some ⟨R, 0, none⟩) k' k'))
            have hF : NumO ((((((V2.setCell ⟨w.heap.size + 2, 0, none⟩ (.slice a n c)).setCell ⟨w.heap.size + 2, 1, none⟩ (.slice b k d)).setCell ⟨w.heap.size + 2, 2, none⟩ (.slice a' n' c')).setCell ⟨w.heap.size + 2, 3, none⟩ (.slice b' k' d')).setCell ⟨w.heap.size + 2, 4, none⟩ (.slice oa k oc)).setCell ⟨w.heap.size + 2, 5, none⟩ (.slice (some ⟨R, 0, none⟩) k' k')) w.heap.size (.slice oa k oc) (offL m) := own_low (HNe.out.off.kept hgr (.inr (own_whole HNe.out.off hrs (by decide)).symm)) (by omega)
            have hG : ((((((V2.setCell ⟨w.heap.size + 2, 0, none⟩ (.slice a n c)).setCell ⟨w.heap.size + 2, 1, none⟩ (.slice b k d)).setCell ⟨w.heap.size + 2, 2, none⟩ (.slice a' n' c')).setCell ⟨w.heap.size + 2, 3, none⟩ (.slice b' k' d')).setCell ⟨w.heap.size + 2, 4, none⟩ (.slice oa k oc)).setCell ⟨w.heap.size + 2, 5, none⟩ (.slice (some ⟨R, 0, none⟩) k' k')).ownsRow w.heap.size 179 256 (.slice (some ⟨R, 0, none⟩) k' k') k' (boolsP (k' * 256) (accP s)) := HNe.out.row.kept hgr (.inr (own_whole HNe.out.row hrs (by decide)).symm)
            have hH : Below w.heap.size w ((((((V2.setCell ⟨w.heap.size + 2, 0, none⟩ (.slice a n c)).setCell ⟨w.heap.size + 2, 1, none⟩ (.slice b k d)).setCell ⟨w.heap.size + 2, 2, none⟩ (.slice a' n' c')).setCell ⟨w.heap.size + 2, 3, none⟩ (.slice b' k' d')).setCell ⟨w.heap.size + 2, 4, none⟩ (.slice oa k oc)).setCell ⟨w.heap.size + 2, 5, none⟩ (.slice (some ⟨R, 0, none⟩) k' k')) := HNe.out.below.grown hgr HNe.out.below.size (fun q hq => by simp only [Option.some.injEq] at hq; omega)
            have HF := Lib.hid hF
            have HG := Lib.hid hG
            have HH := Lib.hid hH
            have hrl := hrs.lt
            have hbl := hbx.lt
            clear hF hG hH hgr hbx hrs
            go_wp2
            exact bodyPost_ret (v := .tuple #[.agg #[.slice a n c, .slice b k d, .slice a' n' c', .slice b' k' d', .slice oa k oc, .slice (some ⟨R, 0, none⟩) k' k'], .int .i64 0]) (by simp [results, Tryz.results61, go_sem, l0, l1, l2, l3, l4, l5]) rfl ⟨_, R, rfl, HF.out, HG.out, HH.out⟩
end Go.Proofs.YtgnbkepdbdgkdaaGreatDoor
