/- Texts joined: SatN, SatF, SatG, SatH, SatI, SatJ, SatK, SatM. -/
import Derived.Test.YtpmbijlldoiplaaGreatDoorSatPl
import Derived.Test.YtpmbijlldoiplaaGreatDoorSOwn
import Derived.Test.YtpmbijlldoiplaaGreatDoorPCheck
import Derived.Test.YtpmbijlldoiplaaGreatDoorSys
import Derived.Test.YtpmbijlldoiplaaGreatDoorRNext
import Derived.Test.YtpmbijlldoiplaaGreatDoorPSame
import Derived.Test.YtpmbijlldoiplaaGreatDoorSCopy
import Derived.Test.YtpmbijlldoiplaaGreatDoorSame3
import Derived.Test.YtpmbijlldoiplaaGreatDoorJoinA
import Derived.Laws.OwnMore
import Derived.OwnWalk
import Derived.Deep.RegionHeld3
import Derived.Deep.RegionLaw
import Derived.BigQuiet
import Derived.Test.YtpmbijlldoiplaaGreatDoorShelfV
import Derived.Sort.OwnSortedInts
import Derived.Test.YtpmbijlldoiplaaGreatDoorRange2
/- spec.newTrial. -/
namespace Go.Proofs.YtpmbijlldoiplaaGreatDoor
open Go.RowKit Pl

theorem infoMarks : (Tryz.prog.info? 196).map (fun i => (i.zero, i.size, i.bytes)) = some (some (.agg (Array.replicate 256 (.bool false))), 256, 256) := by kernel_rfl
theorem infoTrial : (Tryz.prog.info? 134).map (fun i => (i.zero, i.size)) = some (some (.agg #[.slice none 0 0, .slice none 0 0, .slice none 0 0, .slice none 0 0, .slice none 0 0, .slice none 0 0]), 6) := by kernel_rfl
/-- a row that is made, inside a region that draws its order -/
theorem step_make_full {P : Program} {ops : Array Oper} {o : Oper} {a : Act} {w : World} {K : Act → World → Prop} {Q : Exit → Act → World → Prop} {E : Prop} (hgd : o.guard = none) (l c : Operand) (t : TypeId) (hop : o.op = Op.makeSlice t l c)
    (base : Nat) (e : TypeId) (i : TypeInfo) (z : Value) (size : Nat) (h1 : P.underlying t = some (.slice e)) (h2 : P.info? e = some i) (h3 : i.zero = some z) (h4 : i.size = size)
    (kl kc : IntKind) (n : Nat) (hl : a.eval l = .int kl (n : Int)) (hc : a.eval c = .int kc (n : Int)) (b2 : i.bytes * n ≤ 281474976710656) (b3 : n ≤ maxLen) (b4 : base ≤ w.heap.size)
    (hK : ∀ w', w'.ownsRow base e size (.slice (some ⟨w.heap.size, 0, none⟩) n n) n (madeCells z.cells (n * size)).toList → w.grownBy w' none → K (a.put o.dst (.slice (some ⟨w.heap.size, 0, none⟩) n n)) w') :
    if Region.wanted o (yielded ops a.tmps) = true then Oper.wp P o a w K Q else E := by
  have hw : Region.wanted o (yielded ops a.tmps) = true := by simp [Region.wanted, hgd]
  rw [if_pos hw]
  obtain ⟨w', hrun, r1, r2⟩ := run_make_full (P := P) w base t e i z size h1 h2 h3 h4 kl kc n b2 b3 b4
  unfold Oper.wp
  simp [execOp, hop, hl, hc, hrun, Result.andThen]
  exact hK _ r1 r2

/-- where newTrial stands: the trial at block G, the marks at block R -/
structure NtAt (w V : World) (G R : Nat) (a : Option Addr) (n c : Nat) (b : Option Addr) (k d : Nat) (a' : Option Addr) (n' c' : Nat) (b' : Option Addr) (k' d' : Nat) (vo : Value) (os : List Int) (P : Nat → Bool) : Prop where
  box : Whole V G 134 #[.slice a n c, .slice b k d, .slice a' n' c', .slice b' k' d', vo, .slice (some ⟨R, 0, none⟩) k' k']
  off : NumO V (w.heap.size + 3) vo os
  row : V.ownsRow w.heap.size 196 256 (.slice (some ⟨R, 0, none⟩) k' k') k' (boolsP (k' * 256) P)
  sys : Whole V w.heap.size 25 #[.slice a n c, .slice b k d]
  spc : Whole V (w.heap.size + 1) 40 #[.slice a' n' c', .slice b' k' d']
  res : Whole V (w.heap.size + 2) 134 #[.slice none 0 0, .slice none 0 0, .slice none 0 0, .slice none 0 0, .slice none 0 0, .slice none 0 0]
  low : w.heap.size + 3 ≤ G ∧ w.heap.size + 3 ≤ R
  below : Below w.heap.size w V
theorem NtAt.put {w V wO wC : World} {G R : Nat} {a : Option Addr} {n c : Nat} {b : Option Addr} {k d : Nat} {a' : Option Addr} {n' c' : Nat} {b' : Option Addr} {k' d' : Nat} {vo v : Value} {os : List Int} {x : Int} {P : Nat → Bool} {o : Obj} (h : NtAt w V G R a n c b k d a' n' c' b' k' d' vo os P)
    (hG : Below V.heap.size V wO) (hgC : (wO.alloc o).grownBy wC vo.ownBlock) (hown : wC.ownsRow (w.heap.size + 3) 3 1 v (os ++ [x]).length ((os ++ [x]).map (Value.int .i64))) : NtAt w (wC.setCell ⟨G, 4, none⟩ v) G R a n c b k d a' n' c' b' k' d' v (os ++ [x]) P := by
  have hg := grown_self wC ⟨G, 4, none⟩ v
  have up : ∀ {g : Nat} {t : TypeId} {cs : Array Value}, Whole V g t cs → 3 ≠ t → Whole wC g t cs := fun hw hne => ((hw.below hG hw.lt).alloc o).grown hgC (own_whole h.off hw hne)
  have hb3 := up h.box (by decide)
  have hrow := ((own_up' h.row hG).alloc o).kept hgC (own_apart h.row h.off (by decide))
  have hB : Below w.heap.size w wC := ((h.below.trans (hG.mono h.below.size)).alloc (Nat.le_trans h.below.size hG.size) o).grown hgC (by have := h.below.size; have := hG.size; simp; omega) (fun q hq => by have := own_ge h.off q hq; omega)
  refine ⟨?_, hown.kept hg (.inr (own_whole hown hb3 (by decide)).symm), hrow.kept hg (.inr (own_whole hrow hb3 (by decide)).symm), ?_, ?_, ?_, h.low, hB.setCell (p := ⟨G, 4, none⟩) (by have := h.low.1; simp only; omega) v⟩
  · have := hb3.set 4 v
    exact this
  · exact (up h.sys (by decide)).far (by have := h.low.1; simp only; omega) v
  · exact (up h.spc (by decide)).far (by have := h.low.1; simp only; omega) v
  · exact (up h.res (by decide)).far (by have := h.low.1; simp only; omega) v
theorem NtAt.up {w V V' : World} {G R : Nat} {a : Option Addr} {n c : Nat} {b : Option Addr} {k d : Nat} {a' : Option Addr} {n' c' : Nat} {b' : Option Addr} {k' d' : Nat} {vo : Value} {os : List Int} {P : Nat → Bool} (h : NtAt w V G R a n c b k d a' n' c' b' k' d' vo os P) (hb : Below V.heap.size V V') : NtAt w V' G R a n c b k d a' n' c' b' k' d' vo os P :=
  ⟨h.box.below hb h.box.lt, own_up' h.off hb, own_up' h.row hb, h.sys.below hb h.sys.lt, h.spc.below hb h.spc.lt, h.res.below hb h.res.lt, h.low, h.below.trans (hb.mono h.below.size)⟩
theorem NtAt.congr {w V : World} {G R : Nat} {a : Option Addr} {n c : Nat} {b : Option Addr} {k d : Nat} {a' : Option Addr} {n' c' : Nat} {b' : Option Addr} {k' d' : Nat} {vo : Value} {os : List Int} {P Q : Nat → Bool} (h : NtAt w V G R a n c b k d a' n' c' b' k' d' vo os P) (he : ∀ i, i < k' * 256 → P i = Q i) : NtAt w V G R a n c b k d a' n' c' b' k' d' vo os Q :=
  ⟨h.box, h.off, by rw [← boolsP_congr he]; exact h.row, h.sys, h.spc, h.res, h.low, h.below⟩
theorem NtAt.mark {w V : World} {G R : Nat} {a : Option Addr} {n c : Nat} {b : Option Addr} {k d : Nat} {a' : Option Addr} {n' c' : Nat} {b' : Option Addr} {k' d' : Nat} {vo : Value} {os : List Int} {P : Nat → Bool} (h : NtAt w V G R a n c b k d a' n' c' b' k' d' vo os P) {j : Nat} (hj : j < k' * 256) : NtAt w (V.setCell ⟨R, j, none⟩ (.bool true)) G R a n c b k d a' n' c' b' k' d' vo os (fun i => P i || decide (i = j)) := by
  have h1 := h.row.stored j (.bool true)
  rw [boolsP_set _ hj] at h1
  have far : ∀ {g : Nat} {t : TypeId} {cs : Array Value}, Whole V g t cs → 196 ≠ t → Whole (V.setCell ⟨R, j, none⟩ (.bool true)) g t cs := fun hw hne => hw.grown h1.2 (own_whole h.row hw hne)
  exact ⟨far h.box (by decide), h.off.kept h1.2 (own_apart h.off h.row (by decide)), h1.1, far h.sys (by decide), far h.spc (by decide), far h.res (by decide), h.low, h.below.setCell (p := ⟨R, j, none⟩) (by have := h.low.2; simp only; omega) _⟩
theorem made_marks (k : Nat) : (madeCells (Value.agg (Array.replicate 256 (.bool false))).cells (k * 256)).toList = boolsP (k * 256) (fun _ => false) := by
  refine List.ext_getElem (by simp [madeCells, boolsP]) fun i h1 h2 => ?_
  have h3 : i % 256 < 256 := Nat.mod_lt _ (by decide)
  simp [madeCells, Value.cells, boolsP, h3]
/-- which sets the states accept, row by row -/
def accP (s : Spc) (i : Nat) : Bool := decide (((i % 256 : Nat) : Int) ∈ (teAt s.states (i / 256)).1)
/-- .. the first y states, and the first z sets of the next one -/
def accT (s : Spc) (y z i : Nat) : Bool := (decide (i / 256 < y) && accP s i) || (decide (i / 256 = y) && decide (((i % 256 : Nat) : Int) ∈ (teAt s.states y).1.take z))
theorem accT_zero (s : Spc) (i : Nat) : accT s 0 0 i = false := by simp [accT]
theorem accT_step (s : Spc) (y z : Nat) (X : Nat) (hX : X < 256) (hz : z < (teAt s.states y).1.length) (he : (teAt s.states y).1.getD z 0 = (X : Int)) (i : Nat) : accT s y (z + 1) i = (accT s y z i || decide (i = y * 256 + X)) := by
  unfold accT
  rw [take_next _ z 0 hz, he]
  have h1 : (((i % 256 : Nat) : Int) ∈ (teAt s.states y).1.take z ++ [(X : Int)]) ↔ (((i % 256 : Nat) : Int) ∈ (teAt s.states y).1.take z ∨ i % 256 = X) := by
    rw [List.mem_append, List.mem_singleton]
    constructor
    · rintro (h | h)
      · exact .inl h
      · exact .inr (by omega)
    · rintro (h | h)
      · exact .inl h
      · exact .inr (by omega)
  have h2 : decide (i = y * 256 + X) = (decide (i / 256 = y) && decide (i % 256 = X)) := by
    rw [Bool.eq_iff_iff, Bool.and_eq_true, decide_eq_true_iff, decide_eq_true_iff, decide_eq_true_iff]
    omega
  rw [h2, Bool.eq_iff_iff]
  simp only [Bool.or_eq_true, Bool.and_eq_true, decide_eq_true_eq, h1]
  constructor
  · rintro (h | ⟨h, h' | h'⟩)
    · exact .inl (.inl h)
    · exact .inl (.inr ⟨h, h'⟩)
    · exact .inr ⟨h, h'⟩
  · rintro ((h | ⟨h, h'⟩) | ⟨h, h'⟩)
    · exact .inl h
    · exact .inr ⟨h, .inl h'⟩
    · exact .inr ⟨h, .inr h'⟩
theorem accT_row (s : Spc) (y i : Nat) : accT s y (teAt s.states y).1.length i = accT s (y + 1) 0 i := by
  unfold accT
  rw [List.take_length, List.take_zero]
  by_cases h : i / 256 = y
  · subst h
    have h1 : decide (i / 256 < i / 256) = false := decide_eq_false (by omega)
    have h2 : decide (i / 256 < i / 256 + 1) = true := decide_eq_true (by omega)
    rw [h1, h2]
    simp [accP]
  · have h1 : decide (i / 256 = y) = false := decide_eq_false h
    have h2 : decide (i / 256 < y + 1) = decide (i / 256 < y) := decide_eq_decide.2 (by omega)
    rw [h1, h2]
    simp
theorem accT_all (s : Spc) (k i : Nat) (h : i < k * 256) : accT s k 0 i = accP s i := by
  unfold accT
  rw [decide_eq_true (show i / 256 < k by omega)]
  simp
/-- what offered of each state makes -/
def offL (m : Syst) : List Int := m.states.map fun l => ((offS l : Nat) : Int)

set_option maxRecDepth 100000 in
set_option maxHeartbeats 8000000 in
theorem newTrial_ok {w : World} {a : Option Addr} {n c : Nat} {b : Option Addr} {k d : Nat} {m : Syst} {a' : Option Addr} {n' c' : Nat} {b' : Option Addr} {k' d' : Nat} {s : Spc} {e0 e1 e2 : Addr} (E : Errs w e0 e1 e2) (A : SysArg w a n c b k d m) (A' : SpecArg w a' n' c' b' k' d' s) (hm : sysB m = true) (hs : spcB s = true) (ha : m.acts = s.acts) :
    Calls Tryz.prog 74 #[.agg #[.slice a n c, .slice b k d], .agg #[.slice a' n' c', .slice b' k' d']] w fun e w' => ∃ vo R, e = .returned (.tuple #[.agg #[.slice a n c, .slice b k d, .slice a' n' c', .slice b' k' d', vo, .slice (some ⟨R, 0, none⟩) k' k'], .int .i64 0]) ∧
      NumO w' w.heap.size vo (offL m) ∧ w'.ownsRow w.heap.size 196 256 (.slice (some ⟨R, 0, none⟩) k' k') k' (boolsP (k' * 256) (accP s)) ∧ Below w.heap.size w w' := by
  obtain ⟨i1, hi1, hz10, hz11, hz12⟩ := info_parts infoNumS
  obtain ⟨i2, hi2, hz20, hz21, hz22⟩ := info_parts infoMarks
  have hk5 : k ≤ 5000 := by have := ((sysB_iff m).1 hm).2.2.1; have := A.len; omega
  have hk5' : k' ≤ 500 := by have := ((spcB_iff s).1 hs).2.2.1; have := A'.len; omega
  have hB := (Below.refl w.heap.size w).alloc (Nat.le_refl _) (.cells #[.slice a n c, .slice b k d] 25)
  have hB2 := hB.alloc (by simp) (.cells #[.slice a' n' c', .slice b' k' d'] 40)
  have hB3 := hB2.alloc (by simp; omega) (.cells #[.slice none 0 0, .slice none 0 0, .slice none 0 0, .slice none 0 0, .slice none 0 0, .slice none 0 0] 134)
  have hW1 := ((Whole.new w 25 #[.slice a n c, .slice b k d]).alloc (.cells #[.slice a' n' c', .slice b' k' d'] 40)).alloc (.cells #[.slice none 0 0, .slice none 0 0, .slice none 0 0, .slice none 0 0, .slice none 0 0, .slice none 0 0] 134)
  have hW2 := (Whole.new (w.alloc (.cells #[.slice a n c, .slice b k d] 25)) 40 #[.slice a' n' c', .slice b' k' d']).alloc (.cells #[.slice none 0 0, .slice none 0 0, .slice none 0 0, .slice none 0 0, .slice none 0 0, .slice none 0 0] 134)
  have hW3 := Whole.new ((w.alloc (.cells #[.slice a n c, .slice b k d] 25)).alloc (.cells #[.slice a' n' c', .slice b' k' d'] 40)) 134 #[.slice none 0 0, .slice none 0 0, .slice none 0 0, .slice none 0 0, .slice none 0 0, .slice none 0 0]
  simp only [World.size_alloc] at hW2 hW3
  obtain ⟨w0, HW0⟩ : ∃ z, Hid (((w.alloc (.cells #[.slice a n c, .slice b k d] 25)).alloc (.cells #[.slice a' n' c', .slice b' k' d'] 40)).alloc (.cells #[.slice none 0 0, .slice none 0 0, .slice none 0 0, .slice none 0 0, .slice none 0 0, .slice none 0 0] 134) = z) := ⟨_, Lib.hid rfl⟩
  have hz0 : w0.heap.size = w.heap.size + 3 := by rw [← HW0.out]; simp
  rw [HW0.out] at hB3 hW1 hW2 hW3
  have HC1 := SCheck_any (E.below hB3) (A.below hB3)
  rw [chk_yes hm] at HC1
  have HC1 := Lib.hid HC1
  have HA := Lib.hid A
  have HA' := Lib.hid A'
  have HE := Lib.hid E
  have HM := Lib.hid hm
  have HSs := Lib.hid hs
  have HAc := Lib.hid ha
  have HB0 := Lib.hid hB3
  have HW1 := Lib.hid hW1
  have HW2 := Lib.hid hW2
  have HW3 := Lib.hid hW3
  have HZ0 := Lib.hid hz0
  have hEq : decide (m.acts = s.acts) = true := decide_eq_true ha
  have HEq := Lib.hid hEq
  clear hB hB2 hB3 A A' E hW1 hW2 hW3 hz0 hm hs ha hEq
  go_enter Tryz.func74, Tryz.ntmps74
  go_wp2_with fail
  rw [HW0.out]
  refine HC1.out.mono ?_
  rintro e w1 ⟨rfl, hb1⟩
  have HB1 := Lib.hid (HB0.out.trans (hb1.mono HB0.out.size))
  have hz1 : w.heap.size + 3 ≤ w1.heap.size := by have := hb1.size; have := HZ0.out; omega
  have HX1 := Lib.hid (HW1.out.below hb1 HW1.out.lt)
  have HX2 := Lib.hid (HW2.out.below hb1 HW2.out.lt)
  have HX3 := Lib.hid (HW3.out.below hb1 HW3.out.lt)
  have p0 := HX2.out.cell 0
  have p1 := HX2.out.cell 1
  simp only [List.getElem?_toArray, List.getElem?_cons_succ, List.getElem?_cons_zero] at p0 p1
  have HC2 := PCheck_any (HE.out.below HB1.out) (HA'.out.below HB1.out)
  rw [chkS_yes HSs.out] at HC2
  have HC2 := Lib.hid HC2
  clear hb1
  go_wp2_with fail
  refine HC2.out.mono ?_
  rintro e w2 ⟨rfl, hb2⟩
  have HB2 := Lib.hid (HB1.out.trans (hb2.mono HB1.out.size))
  have hz2 : w.heap.size + 3 ≤ w2.heap.size := by have := hb2.size; omega
  have HY1 := Lib.hid (HX1.out.below hb2 HX1.out.lt)
  have HY2 := Lib.hid (HX2.out.below hb2 HX2.out.lt)
  have HY3 := Lib.hid (HX3.out.below hb2 HX3.out.lt)
  have q0 := HY1.out.cell 0
  have q1 := HY2.out.cell 0
  simp only [List.getElem?_toArray, List.getElem?_cons_zero] at q0 q1
  have HC3 := eqStr_any (HA.out.acts.below HB2.out) (HA'.out.acts.below HB2.out)
  rw [HEq.out] at HC3
  have HC3 := Lib.hid HC3
  clear hb2 p0 p1
  go_wp2_with fail
  refine HC3.out.mono ?_
  rintro e w3 ⟨rfl, hb3⟩
  have HB3 := Lib.hid (HB2.out.trans (hb3.mono HB2.out.size))
  have hz3 : w.heap.size + 3 ≤ w3.heap.size := by have := hb3.size; omega
  have HT1 := Lib.hid (HY1.out.below hb3 HY1.out.lt)
  have HT2 := Lib.hid (HY2.out.below hb3 HY2.out.lt)
  have HT3 := Lib.hid (HY3.out.below hb3 HY3.out.lt)
  have r0 := HT1.out.cell 0
  have r1 := HT1.out.cell 1
  have r2 := HT2.out.cell 0
  have r3 := HT2.out.cell 1
  simp only [List.getElem?_toArray, List.getElem?_cons_succ, List.getElem?_cons_zero] at r0 r1 r2 r3
  clear hb3 q0 q1
  obtain ⟨M, HMk⟩ : ∃ z : Array Value, Hid (madeCells (Value.agg (Array.replicate 256 (.bool false))).cells (k' * 256) = z) := ⟨_, Lib.hid rfl⟩
  have hmk : ∀ W : World, (Instr.makeSlice 132 (.int .i64 k') (.int .i64 k')).run Tryz.prog W = .ok (.slice (some ⟨W.heap.size, 0, none⟩) k' k') (W.alloc (.cells M 196)) := fun W => by
    have h := run_makeSlice W 132 196 i2 (.agg (Array.replicate 256 (.bool false))) Tryz.underlying132 hi2 hz20 .i64 .i64 k' k' (by omega) (Int.le_refl _) (by rw [hz21]; omega) (by rw [hz22]; omega) (by omega)
    rw [hz21] at h
    simp only [Int.toNat_natCast] at h
    rw [HMk.out] at h
    exact h
  have hZT : ∀ (G R : Nat) (V : World), w3.heap.size ≤ G → w3.heap.size ≤ R → Below w3.heap.size w3 V → Whole V G 134 #[.slice a n c, .slice b k d, .slice a' n' c', .slice b' k' d', .slice none 0 0, .slice (some ⟨R, 0, none⟩) k' k'] → V.heap[R]? = some (.cells M 196 (0, 0)) →
      NtAt w V G R a n c b k d a' n' c' b' k' d' (.slice none 0 0) [] (fun _ => false) := fun G R V h1 h2 h3 h4 h5 => by
    refine ⟨h4, World.ownsRow_nil _ _ _ _, ?_, HT1.out.below h3 (by omega), HT2.out.below h3 (by omega), HT3.out.below h3 (by omega), ⟨by omega, by omega⟩, HB3.out.trans (h3.mono (by omega))⟩
    have hM : M.toList = boolsP (k' * 256) (fun _ => false) := by rw [← HMk.out]; exact made_marks k'
    refine ⟨by simp [boolsP], .inr ⟨R, k', M, rfl, by omega, h5, Nat.le_refl _, by unfold maxLen; omega, ?_, ?_⟩⟩
    · have := congrArg List.length hM
      simpa [boolsP] using this
    · rw [← hM]
      exact List.take_of_length_le (by rw [hM]; simp [boolsP])
  have HZT := Lib.hid hZT
  clear hZT
  go_wp2
  go_region_held3 (fun w' => w'.cell? ⟨w.heap.size, 0, none⟩ = some (.slice a n c) ∧ w'.cell? ⟨w.heap.size, 1, none⟩ = some (.slice b k d) ∧ w'.cell? ⟨w.heap.size + 1, 0, none⟩ = some (.slice a' n' c') ∧ w'.cell? ⟨w.heap.size + 1, 1, none⟩ = some (.slice b' k' d'))
    ((first | assumption | go_keep))
    (fail)
  all_goals
    first
      | (have hN := HZT.out (w3.heap.size + 1) w3.heap.size ((w3.alloc (.cells M 196)).alloc (.cells #[.slice a n c, .slice b k d, .slice a' n' c', .slice b' k' d', .slice none 0 0, .slice (some ⟨w3.heap.size, 0, none⟩) k' k'] 134)).drew (by omega) (Nat.le_refl _) (((Below.refl _ w3).alloc (Nat.le_refl _) _).alloc (by simp) _).drew (by have := Whole.new (w3.alloc (.cells M 196)) 134 #[.slice a n c, .slice b k d, .slice a' n' c', .slice b' k' d', .slice none 0 0, .slice (some ⟨w3.heap.size, 0, none⟩) k' k']; rw [World.size_alloc] at this; exact this) (by have := (Whole.new w3 196 M).alloc (.cells #[.slice a n c, .slice b k d, .slice a' n' c', .slice b' k' d', .slice none 0 0, .slice (some ⟨w3.heap.size, 0, none⟩) k' k'] 134); exact this)
         obtain ⟨V, hV⟩ : ∃ V, ((w3.alloc (.cells M 196)).alloc (.cells #[.slice a n c, .slice b k d, .slice a' n' c', .slice b' k' d', .slice none 0 0, .slice (some ⟨w3.heap.size, 0, none⟩) k' k'] 134)).drew = V := ⟨_, rfl⟩
         rw [hV] at hN ⊢
         obtain ⟨G, hG⟩ : ∃ G, w3.heap.size + 1 = G := ⟨_, rfl⟩
         rw [hG] at hN ⊢
         obtain ⟨R, hR⟩ : ∃ R, w3.heap.size = R := ⟨_, rfl⟩
         rw [hR] at hN ⊢)
      | (have hN := HZT.out w3.heap.size (w3.heap.size + 1) ((w3.alloc (.cells #[.slice a n c, .slice b k d, .slice a' n' c', .slice b' k' d', .slice none 0 0, .slice (some ⟨w3.heap.size + 1, 0, none⟩) k' k'] 134)).alloc (.cells M 196)).drew (Nat.le_refl _) (by omega) (((Below.refl _ w3).alloc (Nat.le_refl _) _).alloc (by simp) _).drew (by have := (Whole.new w3 134 #[.slice a n c, .slice b k d, .slice a' n' c', .slice b' k' d', .slice none 0 0, .slice (some ⟨w3.heap.size + 1, 0, none⟩) k' k']).alloc (.cells M 196); exact this) (by have := Whole.new (w3.alloc (.cells #[.slice a n c, .slice b k d, .slice a' n' c', .slice b' k' d', .slice none 0 0, .slice (some ⟨w3.heap.size + 1, 0, none⟩) k' k'] 134)) 196 M; rw [World.size_alloc] at this; exact this)
         obtain ⟨V, hV⟩ : ∃ V, ((w3.alloc (.cells #[.slice a n c, .slice b k d, .slice a' n' c', .slice b' k' d', .slice none 0 0, .slice (some ⟨w3.heap.size + 1, 0, none⟩) k' k'] 134)).alloc (.cells M 196)).drew = V := ⟨_, rfl⟩
         rw [hV] at hN ⊢
         obtain ⟨R, hR⟩ : ∃ R, w3.heap.size + 1 = R := ⟨_, rfl⟩
         rw [hR] at hN ⊢
         obtain ⟨G, hG⟩ : ∃ G, w3.heap.size = G := ⟨_, rfl⟩
         rw [hG] at hN ⊢)
    have HN := Lib.hid hN
    have s1 := hN.sys.cell 1
    simp only [List.getElem?_toArray, List.getElem?_cons_succ, List.getElem?_cons_zero] at s1
    have hsl := hN.sys.lt
    clear hV hR hG hN r0 r1 r2 r3 hmk HZT
    go_wp2
    go_loopw [8, 41] (fun _ i wr => ∃ (y : Nat) (vo : Value), i = .int .i64 y ∧ y ≤ k ∧ Hid (NtAt w wr G R a n c b k d a' n' c' b' k' d' vo ((offL m).take y) (fun _ => false))) (fun _ i _ => k - (intOf i).toNat)
    case atStart => exact ⟨0, _, rfl, Nat.zero_le _, HN⟩
    case round =>
      obtain ⟨y, vo, rfl, hy, HNr⟩ := hrel
      have HBr := Lib.hid HNr.out.below
      have hzr := HNr.out.below.size
      have hGl := HNr.out.box.lt
      have hlw := HNr.out.low
      have hoff := HNr.out.off
      have hlen : ((offL m).take y).length = y := by
        have h1 : (offL m).length = k := by unfold offL; rw [List.length_map]; exact HA.out.len.symm
        rw [List.length_take, h1]; omega
      unfold NumO at hoff
      rw [hlen] at hoff
      obtain ⟨oa, oc, rfl⟩ := own_slice' hoff
      have u2 := HNr.out.box.cell 4
      simp only [List.getElem?_toArray, List.getElem?_cons_succ, List.getElem?_cons_zero] at u2
      by_cases hlt : y < k
      · obtain ⟨bx2, off2, rfl, ai, ni, ci, c0, hE⟩ := HA.out.rows y (by have := HA.out.len; omega)
        have c1 : wr.cell? ⟨bx2, off2 + y, none⟩ = some (.slice ai ni ci) := (HBr.out.cell (lt_of_cell c0)).trans c0
        have hyl : y < m.states.length := by have := HA.out.len; omega
        have h8m := ((actsB_iff m.acts).1 ((sysB_iff m).1 HM.out).1).1
        have hed : ∀ q, q < (stAt m.states y).length → 0 ≤ (edAt (stAt m.states y) q).1 ∧ (edAt (stAt m.states y) q).1 < 8 := fun q hq => by
          obtain ⟨g1, g2, _, _⟩ := edge_ok HM.out hyl hq
          omega
        obtain ⟨O, HO⟩ : ∃ O, Hid (offS (stAt m.states y) = O) := ⟨_, Lib.hid rfl⟩
        have HOff : Hid (∀ W, Below wr.heap.size wr W → Calls Tryz.prog 92 #[.slice ai ni ci] W fun e w' => e = .returned (.int .i64 O) ∧ Below W.heap.size W w') := Lib.hid fun W hb => by
          have h1 := offered_any ((hE.below HBr.out).below hb) hed
          rw [show offN (stAt m.states y) = offS (stAt m.states y) from rfl, HO.out] at h1
          exact h1
        have HOW := Lib.hid hoff
        have hnx : Hid (((offL m).take y) ++ [(O : Int)] = (offL m).take (y + 1)) := Lib.hid (by
          rw [take_next (offL m) y 0 (by unfold offL; rw [List.length_map]; exact hyl)]
          congr 2
          unfold offL
          rw [List.getD_eq_getElem?_getD, List.getElem?_map, List.getElem?_eq_getElem hyl, ← HO.out]
          simp [stAt, List.getD, hyl])
        have hGne : Hid ((Value.slice oa y oc).ownBlock = none ∨ (Value.slice oa y oc).ownBlock ≠ some G) := Lib.hid (.inr (own_whole hoff HNr.out.box (by decide)).symm)
        have hy0 : (0 : Int) ≤ (y : Int) := by omega
        have hy1 : (y : Int) < (k : Int) := by omega
        clear c0 hE hed hoff
        go_wp2
        go_region_law (first
          | (refine step_append_sz rfl (.tmp 46) (.tmp 49) 28 (by rfl) (w.heap.size + 3) 3 i1 (.int .i64 0) 1 8 Tryz.underlying28 hi1 hz10 hz11 hz12 rfl (by decide) (.slice oa y oc) (by rfl) y (((offL m).take y).map (Value.int .i64)) ((own_up' HOW.out hG).alloc _) (some ⟨_, 0, none⟩) 1 1 (by rfl) [.int .i64 O] (fun h => by cases h) rfl (one_src _ _ _) (by simp [Value.oneCell']) (by unfold maxLen; omega) (by omega) (by have := hG.size; simp; omega) ?_; intro v wC hC hgC hatC; clear hatC; obtain ⟨va, vc, rfl⟩ := own_slice' hC; have kW := ((HNr.out.box.below hG hGl).alloc (.cells #[.int .i64 O] 3)).grown hgC (by rcases hGne.out with h | h <;> (first | (rw [h]; simp) | exact fun e => h e.symm)); have k7 := kW.cell 4; have k8 := kW.frozen 4; simp only [List.getElem?_toArray, List.getElem?_cons_succ, List.getElem?_cons_zero] at k7)
          | (go_simp; refine (HOff.out _ (Below.refl _ wr).drew).mono ?_; rintro e wO ⟨rfl, hbO⟩; have hG := below_two (Below.refl wr.heap.size wr).drew hbO; have u2O : wO.cell? ⟨G, 4, none⟩ = some (.slice oa y oc) := up_cell hG u2; have u2P := cell_new u2O (.cells #[.int .i64 O] 3); dsimp only))
        all_goals
          have HNx : Hid (NtAt w (wC.setCell ⟨G, 4, none⟩ (.slice va (y + 1) vc)) G R a n c (some ⟨bx2, off2, none⟩) k d a' n' c' b' k' d' (.slice va (y + 1) vc) ((offL m).take (y + 1)) (fun _ => false)) := Lib.hid (by
            have h1 := HNr.out.put hG hgC (x := (O : Int)) (v := .slice va (y + 1) vc) (by rw [List.length_append, hlen, List.map_append]; exact hC)
            rw [hnx.out] at h1
            exact h1)
          clear hC hgC hG hbO k7 k8 kW u2O u2P
          go_wp2
          go_roundw
          case rel => exact ⟨y + 1, _, by go_num, by omega, HNx⟩
          case measure => simp [intOf]; omega
      · have HNf : Hid (NtAt w wr G R a n c b k d a' n' c' b' k' d' (.slice oa k oc) (offL m) (fun _ => false)) := Lib.hid (by
          have h1 := HNr.out
          have h2 : y = k := by omega
          rw [h2] at h1
          rw [List.take_of_length_le (by unfold offL; rw [List.length_map]; have := HA.out.len; omega)] at h1
          exact h1)
        have u3 := HNf.out.spc.cell 1
        simp only [List.getElem?_toArray, List.getElem?_cons_succ, List.getElem?_cons_zero] at u3
        have hsl2 := HNf.out.spc.lt
        obtain ⟨V1, hV1⟩ : ∃ z, z = wr := ⟨_, rfl⟩
        subst hV1
        clear hoff u2 hlw
        go_wp2
        go_loopw [9, 10, 12, 56, 64] (fun _ _ _ i _ wr => ∃ y : Nat, i = .int .i64 y ∧ y ≤ k' ∧ Hid (NtAt w wr G R a n c b k d a' n' c' b' k' d' (.slice oa k oc) (offL m) (accT s y 0))) (fun _ _ _ i _ _ => k' - (intOf i).toNat)
        case atStart => exact ⟨0, rfl, Nat.zero_le _, Lib.hid (HNf.out.congr (fun i _ => (accT_zero s i).symm))⟩
        case round =>
          obtain ⟨y, rfl, hy, HNy⟩ := hrel
          obtain ⟨V2, hV2⟩ : ∃ z, z = wr := ⟨_, rfl⟩
          subst hV2
          have hBy := HNy.out.below
          have hzy := hBy.size
          have HBy := Lib.hid hBy
          clear hBy
          by_cases hlt2 : y < k'
          · have hys : y < s.states.length := by have := HA'.out.len; omega
            obtain ⟨bx3, off3, rfl, a1, n1, c1, a2, n2, c2, d1, d2, hN1, hN2⟩ := HA'.out.rows y hys
            have e1 : V2.cell? ⟨bx3, off3 + y * 2, none⟩ = some (.slice a1 n1 c1) := (HBy.out.cell (lt_of_cell d1)).trans d1
            have e2 : V2.cell? ⟨bx3, off3 + y * 2 + 1, none⟩ = some (.slice a2 n2 c2) := (HBy.out.cell (lt_of_cell d2)).trans d2
            have HN1 := Lib.hid hN1
            have HLn := Lib.hid hN1.arg.len
            have HSt := Lib.hid (ste_facts (((spcB_iff s).1 HSs.out).2.2.2 y hys) hN1.le)
            have h8 := ((actsB_iff s.acts).1 ((spcB_iff s).1 HSs.out).1).1
            have hpow : 2 ^ s.acts.length ≤ 2 ^ 8 := Nat.pow_le_pow_right (by decide) h8
            have HPw := Lib.hid hpow
            have HNa : Hid (NtAt w (V2.alloc (.cells #[.slice a1 n1 c1, .slice a2 n2 c2] 101)) G R a n c b k d a' n' c' (some ⟨bx3, off3, none⟩) k' d' (.slice oa k oc) (offL m) (accT s y 0)) := Lib.hid (HNy.out.up ((Below.refl _ V2).alloc (Nat.le_refl _) _))
            have hn1 : n1 ≤ 17592186044416 := hN1.few
            have hy0 : (0 : Int) ≤ (y : Int) := by omega
            have hy1 : (y : Int) < (k' : Int) := by omega
            clear d1 d2 hN1 hN2 hpow h8
            go_wp2
            go_loopw [12, 64] (fun _ i wr => ∃ z : Nat, i = .int .i64 z ∧ z ≤ n1 ∧ Hid (NtAt w wr G R a n c b k d a' n' c' (some ⟨bx3, off3, none⟩) k' d' (.slice oa k oc) (offL m) (accT s y z))) (fun _ i _ => n1 - (intOf i).toNat)
            case atStart => exact ⟨0, rfl, Nat.zero_le _, HNa⟩
            case round =>
              obtain ⟨z, rfl, hz, HNz⟩ := hrel
              have HBz := Lib.hid HNz.out.below
              by_cases hlt3 : z < n1
              · obtain ⟨bs, os, rfl, f1⟩ := (HN1.out.arg.below HBz.out).cells z (by have := HLn.out; omega)
                obtain ⟨X', HX⟩ : ∃ q, Hid ((teAt s.states y).1.getD z 0 = q) := ⟨_, Lib.hid rfl⟩
                have hXs := HSt.out.2.1 X' (by rw [← HX.out, List.getD_eq_getElem?_getD, List.getElem?_eq_getElem (by have := HLn.out; omega)]; exact List.getElem_mem _)
                obtain ⟨X, hX⟩ : ∃ X : Nat, X' = (X : Int) := ⟨X'.toNat, by omega⟩
                have hX8 : X < 256 := by have := HPw.out; omega
                have HXe : Hid ((teAt s.states y).1.getD z 0 = (X : Int)) := Lib.hid (by rw [HX.out, hX])
                rw [HXe.out] at f1
                have g5 := HNz.out.box.cell 5
                simp only [List.getElem?_toArray, List.getElem?_cons_succ, List.getElem?_cons_zero] at g5
                have hj : y * 256 + X < k' * 256 := by omega
                have r1 := HNz.out.row.cellAt (y * 256 + X) hj
                rw [boolsP_at _ hj] at r1
                have r2 := HNz.out.row.frozenAt (y * 256 + X)
                have HNn : Hid (NtAt w (wr.setCell ⟨R, y * 256 + X, none⟩ (.bool true)) G R a n c b k d a' n' c' (some ⟨bx3, off3, none⟩) k' d' (.slice oa k oc) (offL m) (accT s y (z + 1))) := Lib.hid ((HNz.out.mark hj).congr (fun i _ => (accT_step s y z X hX8 (by have := HLn.out; omega) HXe.out i).symm))
                have hX0 : (0 : Int) ≤ (X : Int) := by omega
                have hX1 : (X : Int) < 256 := by omega
                clear hXs hX
                go_wp2
                go_roundw
                case rel => exact ⟨z + 1, by go_num, by omega, HNn⟩
                case measure => simp [intOf]; omega
              · have HNn : Hid (NtAt w wr G R a n c b k d a' n' c' (some ⟨bx3, off3, none⟩) k' d' (.slice oa k oc) (offL m) (accT s (y + 1) 0)) := Lib.hid (HNz.out.congr (fun i _ => by
                  rw [← accT_row]
                  have : z = (teAt s.states y).1.length := by have := HLn.out; omega
                  rw [this]))
                go_wp2
                go_roundw
                case rel => exact ⟨y + 1, by go_num, by omega, HNn⟩
                case measure => simp [intOf]; omega
          · have HNe : Hid (NtAt w V2 G R a n c b k d a' n' c' b' k' d' (.slice oa k oc) (offL m) (accP s)) := Lib.hid (by
              have h2 : y = k' := by omega
              have h1 := HNy.out
              rw [h2] at h1
              exact h1.congr (fun i hi => accT_all s k' i hi))
            have hbx := HNe.out.box
            have hrs := HNe.out.res
            have g0 := hbx.cell 0
            have m0 := hrs.cell 0
            have fz0 := hrs.frozen 0
            have g1 := hbx.cell 1
            have m1 := hrs.cell 1
            have fz1 := hrs.frozen 1
            have g2 := hbx.cell 2
            have m2 := hrs.cell 2
            have fz2 := hrs.frozen 2
            have g3 := hbx.cell 3
            have m3 := hrs.cell 3
            have fz3 := hrs.frozen 3
            have g4 := hbx.cell 4
            have m4 := hrs.cell 4
            have fz4 := hrs.frozen 4
            have g5 := hbx.cell 5
            have m5 := hrs.cell 5
            have fz5 := hrs.frozen 5
            have l0 := ((((((hrs.set 0 (.slice a n c)).set 1 (.slice b k d)).set 2 (.slice a' n' c')).set 3 (.slice b' k' d')).set 4 (.slice oa k oc)).set 5 (.slice (some ⟨R, 0, none⟩) k' k')).cell 0
            have l1 := ((((((hrs.set 0 (.slice a n c)).set 1 (.slice b k d)).set 2 (.slice a' n' c')).set 3 (.slice b' k' d')).set 4 (.slice oa k oc)).set 5 (.slice (some ⟨R, 0, none⟩) k' k')).cell 1
            have l2 := ((((((hrs.set 0 (.slice a n c)).set 1 (.slice b k d)).set 2 (.slice a' n' c')).set 3 (.slice b' k' d')).set 4 (.slice oa k oc)).set 5 (.slice (some ⟨R, 0, none⟩) k' k')).cell 2
            have l3 := ((((((hrs.set 0 (.slice a n c)).set 1 (.slice b k d)).set 2 (.slice a' n' c')).set 3 (.slice b' k' d')).set 4 (.slice oa k oc)).set 5 (.slice (some ⟨R, 0, none⟩) k' k')).cell 3
            have l4 := ((((((hrs.set 0 (.slice a n c)).set 1 (.slice b k d)).set 2 (.slice a' n' c')).set 3 (.slice b' k' d')).set 4 (.slice oa k oc)).set 5 (.slice (some ⟨R, 0, none⟩) k' k')).cell 4
            have l5 := ((((((hrs.set 0 (.slice a n c)).set 1 (.slice b k d)).set 2 (.slice a' n' c')).set 3 (.slice b' k' d')).set 4 (.slice oa k oc)).set 5 (.slice (some ⟨R, 0, none⟩) k' k')).cell 5
            simp only [List.setIfInBounds_toArray, List.set_cons_zero, List.set_cons_succ, List.getElem?_toArray, List.getElem?_cons_succ, List.getElem?_cons_zero] at g0 g1 g2 g3 g4 g5 m0 m1 m2 m3 m4 m5 l0 l1 l2 l3 l4 l5
            have hgr := (((((grown_self V2 ⟨w.heap.size + 2, 0, none⟩ (.slice a n c)).trans (grown_self (V2.setCell ⟨w.heap.size + 2, 0, none⟩ (.slice a n c)) ⟨w.heap.size + 2, 1, none⟩ (.slice b k d))).trans (grown_self ((V2.setCell ⟨w.heap.size + 2, 0, none⟩ (.slice a n c)).setCell ⟨w.heap.size + 2, 1, none⟩ (.slice b k d)) ⟨w.heap.size + 2, 2, none⟩ (.slice a' n' c'))).trans (grown_self (((V2.setCell ⟨w.heap.size + 2, 0, none⟩ (.slice a n c)).setCell ⟨w.heap.size + 2, 1, none⟩ (.slice b k d)).setCell ⟨w.heap.size + 2, 2, none⟩ (.slice a' n' c')) ⟨w.heap.size + 2, 3, none⟩ (.slice b' k' d'))).trans (grown_self ((((V2.setCell ⟨w.heap.size + 2, 0, none⟩ (.slice a n c)).setCell ⟨w.heap.size + 2, 1, none⟩ (.slice b k d)).setCell ⟨w.heap.size + 2, 2, none⟩ (.slice a' n' c')).setCell ⟨w.heap.size + 2, 3, none⟩ (.slice b' k' d')) ⟨w.heap.size + 2, 4, none⟩ (.slice oa k oc))).trans (grown_self (((((V2.setCell ⟨w.heap.size + 2, 0, none⟩ (.slice a n c)).setCell ⟨w.heap.size + 2, 1, none⟩ (.slice b k d)).setCell ⟨w.heap.size + 2, 2, none⟩ (.slice a' n' c')).setCell ⟨w.heap.size + 2, 3, none⟩ (.slice b' k' d')).setCell ⟨w.heap.size + 2, 4, none⟩ (.slice oa k oc)) ⟨w.heap.size + 2, 5, none⟩ (.slice (some ⟨R, 0, none⟩) k' k'))
            have hF : NumO ((((((V2.setCell ⟨w.heap.size + 2, 0, none⟩ (.slice a n c)).setCell ⟨w.heap.size + 2, 1, none⟩ (.slice b k d)).setCell ⟨w.heap.size + 2, 2, none⟩ (.slice a' n' c')).setCell ⟨w.heap.size + 2, 3, none⟩ (.slice b' k' d')).setCell ⟨w.heap.size + 2, 4, none⟩ (.slice oa k oc)).setCell ⟨w.heap.size + 2, 5, none⟩ (.slice (some ⟨R, 0, none⟩) k' k')) w.heap.size (.slice oa k oc) (offL m) := own_low (HNe.out.off.kept hgr (.inr (own_whole HNe.out.off hrs (by decide)).symm)) (by omega)
            have hG : ((((((V2.setCell ⟨w.heap.size + 2, 0, none⟩ (.slice a n c)).setCell ⟨w.heap.size + 2, 1, none⟩ (.slice b k d)).setCell ⟨w.heap.size + 2, 2, none⟩ (.slice a' n' c')).setCell ⟨w.heap.size + 2, 3, none⟩ (.slice b' k' d')).setCell ⟨w.heap.size + 2, 4, none⟩ (.slice oa k oc)).setCell ⟨w.heap.size + 2, 5, none⟩ (.slice (some ⟨R, 0, none⟩) k' k')).ownsRow w.heap.size 196 256 (.slice (some ⟨R, 0, none⟩) k' k') k' (boolsP (k' * 256) (accP s)) := HNe.out.row.kept hgr (.inr (own_whole HNe.out.row hrs (by decide)).symm)
            have hH : Below w.heap.size w ((((((V2.setCell ⟨w.heap.size + 2, 0, none⟩ (.slice a n c)).setCell ⟨w.heap.size + 2, 1, none⟩ (.slice b k d)).setCell ⟨w.heap.size + 2, 2, none⟩ (.slice a' n' c')).setCell ⟨w.heap.size + 2, 3, none⟩ (.slice b' k' d')).setCell ⟨w.heap.size + 2, 4, none⟩ (.slice oa k oc)).setCell ⟨w.heap.size + 2, 5, none⟩ (.slice (some ⟨R, 0, none⟩) k' k')) := HNe.out.below.grown hgr HNe.out.below.size (fun q hq => by simp only [Option.some.injEq] at hq; omega)
            have HF := Lib.hid hF
            have HG := Lib.hid hG
            have HH := Lib.hid hH
            have hrl := hrs.lt
            have hbl := hbx.lt
            clear hF hG hH hgr hbx hrs
            go_wp2
            exact bodyPost_ret (v := .tuple #[.agg #[.slice a n c, .slice b k d, .slice a' n' c', .slice b' k' d', .slice oa k oc, .slice (some ⟨R, 0, none⟩) k' k'], .int .i64 0]) (by simp [results, Tryz.results74, go_sem, l0, l1, l2, l3, l4, l5]) rfl ⟨_, R, rfl, HF.out, HG.out, HH.out⟩
end Go.Proofs.YtpmbijlldoiplaaGreatDoor
/- The parts of spec.Satisfies: noPairs, add, fits, follow. -/
namespace Go.Proofs.YtpmbijlldoiplaaGreatDoor
open Go.RowKit Pl

theorem infoBoolV : (Tryz.prog.info? 4).map (fun i => (i.zero, i.size, i.bytes)) = some (some (.bool false), 1, 1) := by kernel_rfl
theorem infoRowB : (Tryz.prog.info? 129).map (fun i => (i.zero, i.size, i.bytes)) = some (some (.slice none 0 0), 1, 24) := by kernel_rfl
def rowV (b r : Nat) : Value := .slice (some ⟨r, 0, none⟩) b b
/-- a table of marks in the call's own memory -/
structure RelAt (W : World) (B g a b : Nat) (bl : List Nat) (F : Mat) : Prop where
  shp : Shp F a b
  len : bl.length = a
  nod : ∀ x y, x < a → y < a → bl.getD x 0 = bl.getD y 0 → x = y
  outer : W.ownsRow B 129 1 (.slice (some ⟨g, 0, none⟩) a a) a (bl.map (rowV b))
  rows : ∀ x, x < a → W.ownsRow B 4 1 (rowV b (bl.getD x 0)) b ((F.getD x []).map Value.bool)
theorem RelAt.below {W W' : World} {B g a b : Nat} {bl : List Nat} {F : Mat} (h : RelAt W B g a b bl F) (hb : Below W.heap.size W W') : RelAt W' B g a b bl F :=
  ⟨h.shp, h.len, h.nod, own_up' h.outer hb, fun x hx => own_up' (h.rows x hx) hb⟩
theorem RelAt.cells {W : World} {B g a b : Nat} {bl : List Nat} {F : Mat} (h : RelAt W B g a b bl F) {x y : Nat} (hx : x < a) (hy : y < b) :
    W.cell? ⟨g, x, none⟩ = some (rowV b (bl.getD x 0)) ∧ W.cell? ⟨bl.getD x 0, y, none⟩ = some (.bool (getF F x y)) ∧ W.frozen? ⟨bl.getD x 0, y, none⟩ = false := by
  refine ⟨?_, ?_, (h.rows x hx).frozenAt y⟩
  · rw [h.outer.cellAt x (by omega), List.getElem?_map, List.getElem?_eq_getElem (by rw [h.len]; exact hx), List.getD_eq_getElem?_getD, List.getElem?_eq_getElem (by rw [h.len]; exact hx)]
    rfl
  · rw [(h.rows x hx).cellAt y (by omega), List.getElem?_map, List.getElem?_eq_getElem (by rw [h.shp.2 x hx]; exact hy)]
    unfold getF
    rw [List.getD_eq_getElem?_getD (l := F.getD x []), List.getElem?_eq_getElem (by rw [h.shp.2 x hx]; exact hy)]
    rfl
theorem RelAt.set {W : World} {B g a b : Nat} {bl : List Nat} {F : Mat} (h : RelAt W B g a b bl F) {x y : Nat} (hx : x < a) (_hy : y < b) : RelAt (W.setCell ⟨bl.getD x 0, y, none⟩ (.bool true)) B g a b bl (setF F x y) := by
  have h1 := (h.rows x hx).stored y (.bool true)
  refine ⟨setF_shp h.shp x y, h.len, h.nod, h.outer.kept h1.2 (own_apart h.outer (h.rows x hx) (by decide)), fun z hz => ?_⟩
  unfold setF
  by_cases e : z = x
  · subst e
    have e1 : (F.set z ((F.getD z []).set y true)).getD z [] = (F.getD z []).set y true := by
      rw [List.getD_eq_getElem?_getD, List.getElem?_set, if_pos rfl, if_pos (by rw [h.shp.1]; exact hx)]; rfl
    rw [e1, List.map_set]
    exact h1.1
  · have e1 : (F.set x ((F.getD x []).set y true)).getD z [] = F.getD z [] := by
      rw [List.getD_eq_getElem?_getD, List.getElem?_set, if_neg (fun q => e q.symm), ← List.getD_eq_getElem?_getD]
    rw [e1]
    exact (h.rows z hz).kept h1.2 (.inr fun q => e (h.nod z x hz hx (by simp only [rowV, Value.ownBlock, Option.some.injEq] at q; exact q)))

set_option maxRecDepth 100000 in
set_option maxHeartbeats 4000000 in
theorem add_any {w : World} {B g a b : Nat} {bl : List Nat} {F : Mat} (h : RelAt w B g a b bl F) {x y : Nat} (hx : x < a) (hy : y < b) (_ha : a ≤ 1000000) (_hb : b ≤ 1000000) :
    Calls Tryz.prog 76 #[.slice (some ⟨g, 0, none⟩) a a, .agg #[.int .i64 x, .int .i64 y]] w fun e w' => e = .returned (.bool (!getF F x y)) ∧ RelAt w' B g a b bl (setF F x y) ∧ w.grownBy w' (some (bl.getD x 0)) := by
  have hb1 := (Below.refl w.heap.size w).alloc (Nat.le_refl _) (.cells #[.int .i64 x, .int .i64 y] 130)
  have h1 := h.below hb1
  obtain ⟨c1, c2, c3⟩ := h1.cells hx hy
  obtain ⟨d1, d2, d3⟩ := h.cells hx hy
  obtain ⟨r, hr⟩ : ∃ r, bl.getD x 0 = r := ⟨_, rfl⟩
  have hst : ∀ n : Nat, RelAt (((w.alloc (.cells #[.int .i64 x, .int .i64 y] 130)).drewN n).setCell ⟨bl.getD x 0, y, none⟩ (.bool true)) B g a b bl (setF F x y) := fun n => (h1.below (below_drewN (Below.refl _ _) n)).set hx hy
  have hg1 : ∀ n : Nat, w.grownBy (((w.alloc (.cells #[.int .i64 x, .int .i64 y] 130)).drewN n).setCell ⟨bl.getD x 0, y, none⟩ (.bool true)) (some (bl.getD x 0)) := fun n => by
    have h2 : Below w.heap.size w ((w.alloc (.cells #[.int .i64 x, .int .i64 y] 130)).drewN n) := below_drewN hb1 n
    exact (⟨h2.os, h2.tape, h2.output, h2.size, fun k hk _ => h2.block k hk⟩ : w.grownBy _ (some (bl.getD x 0))).trans (grown_self _ ⟨bl.getD x 0, y, none⟩ _)
  rw [hr] at c1 c2 c3 d1 d2 d3 hst hg1 ⊢
  have HST := Lib.hid hst
  have HG := Lib.hid hg1
  obtain ⟨q, HQ⟩ : ∃ q, Hid (getF F x y = q) := ⟨_, Lib.hid rfl⟩
  rw [HQ.out] at c2 d2 ⊢
  unfold rowV at c1 d1
  have i0 : (0 : Int) ≤ (x : Int) := by omega
  have i1 : (x : Int) < (a : Int) := by omega
  have i2 : (0 : Int) ≤ (y : Int) := by omega
  have i3 : (y : Int) < (b : Int) := by omega
  have zz1 : g < w.heap.size := lt_of_cell d1
  have zz2 : r < w.heap.size := lt_of_cell d2
  clear h h1 hst hg1 hb1 hr
  go_enter Tryz.func76, Tryz.ntmps76
  go_wp2
  go_quiet (fail)
  go_wp2
  go_region
  go_wp2
  go_ret
  exact ⟨rfl, HST.out _, HG.out _⟩

/-- what a trial is held by -/
structure TrArg (W : World) (B : Nat) (a : Option Addr) (n c : Nat) (b : Option Addr) (k d : Nat) (m : Syst) (a' : Option Addr) (n' c' : Nat) (b' : Option Addr) (k' d' : Nat) (s : Spc) (vo : Value) (R : Nat) : Prop where
  sys : SysArg W a n c b k d m
  spc : SpecArg W a' n' c' b' k' d' s
  off : NumO W B vo (offL m)
  acc : W.ownsRow B 196 256 (.slice (some ⟨R, 0, none⟩) k' k') k' (boolsP (k' * 256) (accP s))
theorem TrArg.below {W W' : World} {B : Nat} {a : Option Addr} {n c : Nat} {b : Option Addr} {k d : Nat} {m : Syst} {a' : Option Addr} {n' c' : Nat} {b' : Option Addr} {k' d' : Nat} {s : Spc} {vo : Value} {R : Nat} (h : TrArg W B a n c b k d m a' n' c' b' k' d' s vo R) (hb : Below W.heap.size W W') : TrArg W' B a n c b k d m a' n' c' b' k' d' s vo R :=
  ⟨h.sys.below hb, h.spc.below hb, own_up' h.off hb, own_up' h.acc hb⟩
theorem accP_at (m : Syst) (s : Spc) (x y : Nat) (h : offS (stAt m.states x) < 256) : accP s (y * 256 + offS (stAt m.states x)) = fitB m s x y := by
  unfold accP fitB
  rw [show (y * 256 + offS (stAt m.states x)) % 256 = offS (stAt m.states x) by omega, show (y * 256 + offS (stAt m.states x)) / 256 = y by omega]
theorem offs_small {m : Syst} (hm : sysB m = true) {x : Nat} (hx : x < m.states.length) : offS (stAt m.states x) < 256 := offS_lt fun q hq => by
  obtain ⟨g1, g2, _, _⟩ := edge_ok hm hx hq
  have := ((actsB_iff m.acts).1 ((sysB_iff m).1 hm).1).1
  omega

set_option maxRecDepth 100000 in
set_option maxHeartbeats 4000000 in
theorem fits_any {w : World} {B : Nat} {a : Option Addr} {n c : Nat} {b : Option Addr} {k d : Nat} {m : Syst} {a' : Option Addr} {n' c' : Nat} {b' : Option Addr} {k' d' : Nat} {s : Spc} {oa : Option Addr} {oc R x y : Nat} (h : TrArg w B a n c b k d m a' n' c' b' k' d' s (.slice oa k oc) R) (hm : sysB m = true) (hx : x < k) (hy : y < k') (_hk : k ≤ 1000000) (_hk' : k' ≤ 1000000) :
    Calls Tryz.prog 77 #[.agg #[.slice a n c, .slice b k d, .slice a' n' c', .slice b' k' d', .slice oa k oc, .slice (some ⟨R, 0, none⟩) k' k'], .agg #[.int .i64 x, .int .i64 y]] w fun e w' => e = .returned (.bool (fitB m s x y)) ∧ Below w.heap.size w w' := by
  have hxm : x < m.states.length := by have := h.sys.len; omega
  have h8 := offs_small hm hxm
  have HF := Lib.hid (accP_at m s x y h8)
  have hol : (offL m).length = k := by unfold offL; rw [List.length_map]; exact h.sys.len.symm
  obtain ⟨O, HO⟩ : ∃ O, Hid (offS (stAt m.states x) = O) := ⟨_, Lib.hid rfl⟩
  rw [HO.out] at HF h8
  have hoff := h.off
  unfold NumO at hoff
  rw [hol] at hoff
  rcases hoff.2 with ⟨hno, h0⟩ | ⟨og, ocap, cur, heq, _⟩
  · omega
  · simp only [Value.slice.injEq, true_and] at heq
    obtain ⟨rfl, rfl⟩ := heq
    have c1 := hoff.cellAt x (by omega)
    rw [List.getElem?_map] at c1
    have e1 : (offL m)[x]? = some ((O : Nat) : Int) := by
      unfold offL
      rw [List.getElem?_map, List.getElem?_eq_getElem hxm, ← HO.out]
      simp [stAt, List.getD, hxm]
    rw [e1] at c1
    change w.cell? _ = some (.int .i64 O) at c1
    have hj : y * 256 + O < k' * 256 := by omega
    have c2 := h.acc.cellAt (y * 256 + O) hj
    rw [boolsP_at _ hj, HF.out] at c2
    obtain ⟨q, HQ⟩ : ∃ q, Hid (fitB m s x y = q) := ⟨_, Lib.hid rfl⟩
    rw [HQ.out] at c2 ⊢
    have i0 : (0 : Int) ≤ (x : Int) := by omega
    have i1 : (x : Int) < (k : Int) := by omega
    have i2 : (0 : Int) ≤ (y : Int) := by omega
    have i3 : (y : Int) < (k' : Int) := by omega
    have i4 : (0 : Int) ≤ (O : Int) := by omega
    have i5 : (O : Int) < 256 := by omega
    have zz1 := lt_of_cell c1
    have zz2 := lt_of_cell c2
    have hb1 := ((Below.refl w.heap.size w).alloc (Nat.le_refl _) (.cells #[.slice a n c, .slice b k d, .slice a' n' c', .slice b' k' d', .slice (some ⟨og, 0, none⟩) k oc, .slice (some ⟨R, 0, none⟩) k' k'] 134)).alloc (by simp) (.cells #[.int .i64 x, .int .i64 y] 130)
    have HB := Lib.hid hb1
    clear h hoff hb1 e1 hol hj
    go_enter Tryz.func77, Tryz.ntmps77
    go_wp2
    go_quiet (fail)
    go_wp2
    go_ret
    exact ⟨rfl, below_drewN HB.out _⟩

set_option maxRecDepth 100000 in
set_option maxHeartbeats 4000000 in
theorem follow_any {w : World} {B : Nat} {a : Option Addr} {n c : Nat} {b : Option Addr} {k d : Nat} {m : Syst} {a' : Option Addr} {n' c' : Nat} {b' : Option Addr} {k' d' : Nat} {s : Spc} {vo : Value} {R x y u z : Nat} (h : TrArg w B a n c b k d m a' n' c' b' k' d' s vo R) (hvo : ∃ oa oc, vo = .slice oa k oc) (hy : y < k') (hu : u < (teAt s.states y).2.length) {t : Nat} (hn : (teAt s.states y).2.getD u 0 = (t : Int)) (_hk' : k' ≤ 1000000) :
    Calls Tryz.prog 79 #[.agg #[.slice a n c, .slice b k d, .slice a' n' c', .slice b' k' d', vo, .slice (some ⟨R, 0, none⟩) k' k'], .agg #[.int .i64 x, .int .i64 y], .agg #[.int .i64 u, .int .i64 z]] w fun e w' => e = .returned (.agg #[.int .i64 z, .int .i64 t]) ∧ Below w.heap.size w w' := by
  obtain ⟨oa, oc, rfl⟩ := hvo
  have hys : y < s.states.length := by have := h.spc.len; omega
  obtain ⟨bb, off, rfl, a1, m1, q1, a2, m2, q2, d1, d2, hN1, hN2⟩ := h.spc.rows y hys
  obtain ⟨bn, on, rfl, d3⟩ := hN2.arg.cells u hu
  rw [hn] at d3
  have hm2 : u < m2 := by have := hN2.arg.len; omega
  have i2 : (0 : Int) ≤ (y : Int) := by omega
  have i3 : (y : Int) < (k' : Int) := by omega
  have i4 : (0 : Int) ≤ (u : Int) := by omega
  have i5 : (u : Int) < (m2 : Int) := by omega
  have zz2 := lt_of_cell d2
  have zz3 := lt_of_cell d3
  have hb1 := (((Below.refl w.heap.size w).alloc (Nat.le_refl _) (.cells #[.slice a n c, .slice b k d, .slice a' n' c', .slice (some ⟨bb, off, none⟩) k' d', .slice oa k oc, .slice (some ⟨R, 0, none⟩) k' k'] 134)).alloc (by simp) (.cells #[.int .i64 x, .int .i64 y] 130)).alloc (by simp; omega) (.cells #[.int .i64 u, .int .i64 z] 85)
  have HB := Lib.hid hb1
  have e2 := cell_new (cell_new (cell_new (cell_new d2 (.cells #[.slice a n c, .slice b k d, .slice a' n' c', .slice (some ⟨bb, off, none⟩) k' d', .slice oa k oc, .slice (some ⟨R, 0, none⟩) k' k'] 134)) (.cells #[.int .i64 x, .int .i64 y] 130)) (.cells #[.int .i64 u, .int .i64 z] 85)) (.cells #[.int .i64 0, .int .i64 0] 130)
  have e3 := cell_new (cell_new (cell_new (cell_new d3 (.cells #[.slice a n c, .slice b k d, .slice a' n' c', .slice (some ⟨bb, off, none⟩) k' d', .slice oa k oc, .slice (some ⟨R, 0, none⟩) k' k'] 134)) (.cells #[.int .i64 x, .int .i64 y] 130)) (.cells #[.int .i64 u, .int .i64 z] 85)) (.cells #[.int .i64 0, .int .i64 0] 130)
  clear h hb1 hN1 hN2 hn hu
  go_enter Tryz.func79, Tryz.ntmps79
  go_wp2
  go_region
  go_wp2
  exact bodyPost_ret (v := .agg #[.int .i64 z, .int .i64 t]) (by simp [results, Tryz.results79, go_sem]) rfl ⟨rfl, (HB.out.alloc (by simp; omega) _).drew⟩
end Go.Proofs.YtpmbijlldoiplaaGreatDoor
/- spell; noPairs. -/
namespace Go.Proofs.YtpmbijlldoiplaaGreatDoor
open Go.RowKit Go.Sort Pl

theorem grow_nil (W : World) : grow W #[] = W := by simp [grow]
/-- slices.Reverse of a row of the call's own -/
theorem rev_any {w : World} {base : Nat} {v : Value} {l : List Int} (h : NumO w base v l) (hl : l.length ≤ 10000000) :
    Calls Tryz.prog 123 #[v] w fun e w' => e = .returned (.tuple #[]) ∧ NumO w' base v l.reverse ∧ Below base w w' := by
  have hO := h
  rcases h.2 with ⟨rfl, h0⟩ | ⟨g, cap, cur, rfl, hg, hh, hc, hm, hsz, ht⟩
  · refine (Tryz.slices_Reverse_int_empty none 0 w).mono ?_
    rintro e w' ⟨rfl, rfl⟩
    have e1 : l = [] := List.length_eq_zero_iff.1 h0
    subst e1
    exact ⟨rfl, hO, Below.refl _ _⟩
  · have ht' : cur.toList.take l.length = l.map (Value.int .i64) := by rw [← ht, Nat.mul_one]
    have hC := Tryz.slices_Reverse_int g 0 cap l w (holds_of_blockI hh ht') (by omega)
    refine hC.mono ?_
    rintro e w' ⟨rfl, q, rfl⟩
    have hw := ownsRow_sortedI (n := q) (os := #[]) List.length_reverse hg hh hc hm hsz
    rw [grow_nil] at hw
    have hgr := grownBy_sortedI (w := w) (g := g) (n := q) (os := #[]) l.reverse.toArray
    rw [grow_nil] at hgr
    refine ⟨rfl, ?_, (Below.refl _ w).grown hgr (Nat.le_trans hg (Nat.le_of_lt (Array.getElem?_eq_some_iff.1 hh).1)) (fun k hk => by cases hk; exact hg)⟩
    unfold NumO
    rw [List.length_reverse]
    exact hw

/-! ### the queue in memory -/
def qcells (Q : List Wt) : List Value := Q.flatMap fun t => [.int .i64 t.before, .int .i64 t.last, .int .i64 t.x, .int .i64 t.y]
theorem qcells_length : ∀ Q : List Wt, (qcells Q).length = Q.length * 4
  | [] => rfl
  | t :: Q => by
    have := qcells_length Q
    simp only [qcells, List.flatMap_cons, List.length_append, List.length_cons, List.length_nil] at this ⊢
    omega
theorem qcells_at : ∀ (Q : List Wt) (k : Nat), k < Q.length → (qcells Q)[k * 4]? = some (.int .i64 (wtAt Q k).before) ∧ (qcells Q)[k * 4 + 1]? = some (.int .i64 (wtAt Q k).last) ∧ (qcells Q)[k * 4 + 2]? = some (.int .i64 (wtAt Q k).x) ∧ (qcells Q)[k * 4 + 3]? = some (.int .i64 (wtAt Q k).y)
  | [], _, h => by simp at h
  | t :: Q, 0, _ => by simp [qcells, wtAt]
  | t :: Q, k + 1, h => by
    have := qcells_at Q k (by simpa using h)
    have e : qcells (t :: Q) = .int .i64 t.before :: .int .i64 t.last :: .int .i64 t.x :: .int .i64 t.y :: qcells Q := rfl
    have e2 : wtAt (t :: Q) (k + 1) = wtAt Q k := by simp [wtAt, List.getD]
    rw [e, e2, show (k + 1) * 4 = k * 4 + 1 + 1 + 1 + 1 by omega]
    simpa using this
theorem qcells_snoc (Q : List Wt) (t : Wt) : qcells (Q ++ [t]) = qcells Q ++ [.int .i64 t.before, .int .i64 t.last, .int .i64 t.x, .int .i64 t.y] := by simp [qcells]
/-- places point back -/
def Bef (Q : List Wt) : Prop := ∀ k, k < Q.length → 0 < k → (wtAt Q k).before < k
theorem spell_fuel {Q : List Wt} (hb : Bef Q) : ∀ (p : Nat), p < Q.length → ∀ f, p ≤ f → spellQ Q f p = spellQ Q p p := by
  intro p
  induction p using Nat.strongRecOn with
  | ind p ih =>
    intro hp f hf
    rcases Nat.eq_zero_or_pos p with rfl | h0
    · cases f <;> rfl
    · obtain ⟨f', rfl⟩ : ∃ f', f = f' + 1 := ⟨f - 1, by omega⟩
      obtain ⟨p', rfl⟩ : ∃ p', p = p' + 1 := ⟨p - 1, by omega⟩
      have h1 := hb (p' + 1) hp h0
      unfold spellQ
      rw [if_neg (by omega), if_neg (by omega)]
      rw [ih _ h1 (by omega) f' (by omega), ih _ h1 (by omega) p' (by omega)]
theorem spell_next {Q : List Wt} (hb : Bef Q) {p : Nat} (hp : p < Q.length) (h0 : 0 < p) : spellQ Q p p = spellQ Q (wtAt Q p).before (wtAt Q p).before ++ [(wtAt Q p).last] := by
  obtain ⟨p', rfl⟩ : ∃ p', p = p' + 1 := ⟨p - 1, by omega⟩
  have h1 := hb (p' + 1) hp h0
  conv => lhs; unfold spellQ
  rw [if_neg (by omega), spell_fuel hb _ (by omega) p' (by omega)]
theorem spell_len {Q : List Wt} : ∀ f p, (spellQ Q f p).length ≤ f
  | 0, _ => by simp [spellQ]
  | f + 1, p => by
    unfold spellQ
    split
    · simp
    · have := spell_len (Q := Q) f (wtAt Q p).before
      simp; omega

set_option maxRecDepth 100000 in
set_option maxHeartbeats 4000000 in
theorem spell_any {w : World} {B gq n c i : Nat} {Q : List Wt} (h : w.ownsRow B 143 4 (.slice (some ⟨gq, 0, none⟩) n c) n (qcells Q)) (hn : Q.length = n) (hb : Bef Q) (hi : i < n) (h6 : n ≤ 3000000) :
    Calls Tryz.prog 78 #[.slice (some ⟨gq, 0, none⟩) n c, .int .i64 i] w fun e w' => ∃ v, e = .returned v ∧ NumO w' w.heap.size v (spellQ Q i i) ∧ Below w.heap.size w w' := by
  obtain ⟨i1, hi1, hz10, hz11, hz12⟩ := info_parts infoNumS
  have H := Lib.hid h
  have HN := Lib.hid hn
  have HB := Lib.hid hb
  clear h hn hb
  go_enter Tryz.func78, Tryz.ntmps78
  go_wp2
  go_loopw [1, 5] (fun pv v wr => ∃ (p : Nat) (l : List Int), pv = .int .i64 p ∧ p + l.length ≤ i ∧ Hid (NumO wr w.heap.size v l) ∧ Hid (spellQ Q i i = spellQ Q p p ++ l.reverse) ∧ Hid (Below w.heap.size w wr)) (fun pv _ _ => (intOf pv).toNat)
  case atStart => exact ⟨i, [], rfl, by simp, Lib.hid (World.ownsRow_nil _ _ _ _), Lib.hid (by simp), Lib.hid (Below.refl _ _)⟩
  case round =>
    obtain ⟨p, l, rfl, hp, hl, hs, hb⟩ := hrel
    have hzr := hb.out.size
    obtain ⟨va, vc, rfl⟩ := own_slice' hl.out
    by_cases h0 : 0 < p
    · have hpn : p < n := by omega
      have hq := (H.out.kept (below_grown' hb.out) (by cases (Value.slice (some ⟨gq, 0, none⟩) n c).ownBlock <;> simp))
      obtain ⟨e0, e1, _, _⟩ := qcells_at Q p (by have := HN.out; omega)
      have c0 := hq.cellAt (p * 4) (by omega)
      have c1 := hq.cellAt (p * 4 + 1) (by omega)
      rw [e0] at c0
      rw [e1] at c1
      have hbf := HB.out p (by have := HN.out; omega) h0
      obtain ⟨bf, HBf⟩ : ∃ z, Hid ((wtAt Q p).before = z) := ⟨_, Lib.hid rfl⟩
      obtain ⟨la, HLa⟩ : ∃ z, Hid ((wtAt Q p).last = z) := ⟨_, Lib.hid rfl⟩
      rw [HBf.out] at c0 hbf
      rw [HLa.out] at c1
      have HS2 : Hid (spellQ Q i i = spellQ Q bf bf ++ (l ++ [la]).reverse) := Lib.hid (by
        rw [hs.out, spell_next HB.out (by have := HN.out; omega) h0, HBf.out, HLa.out]
        simp)
      have HOW := Lib.hid (hl.out.alloc (.cells #[.int .i64 la] 3))
      have c0' := cell_new c0 (.cells #[.int .i64 la] 3)
      have p0 : (0 : Int) < (p : Int) := by omega
      have p1 : (p : Int) < (n : Int) := by omega
      have p2 : (0 : Int) ≤ (p : Int) := by omega
      clear hq e0 e1
      go_wp2_with (at_builtin; (refine wpList_append_sz rfl (.tmp 14) (.tmp 21) 28 rfl w.heap.size 3 i1 (.int .i64 0) 1 8 Tryz.underlying28 hi1 hz10 hz11 hz12 rfl (by decide) (.slice va l.length vc) rfl l.length (l.map (Value.int .i64)) HOW.out (some ⟨wr.heap.size, 0, none⟩) 1 1 rfl [.int .i64 la] (fun h => by cases h) rfl (one_src _ _ _) (by simp [Value.oneCell']) (by unfold maxLen; omega) (by omega) (by simp; omega) ?_); intro v2 w2 hv2 hg2 hat2; refine Hid.out ?_)
      refine Lib.hid ?_
      have hb2 : Below w.heap.size w w2 := (hb.out.alloc hzr (.cells #[.int .i64 la] 3)).grown hg2 (by simp; omega) (own_ge HOW.out)
      have HB2 := Lib.hid hb2
      have HV2 : Hid (NumO w2 w.heap.size v2 (l ++ [la])) := Lib.hid (by unfold NumO; rw [List.length_append, List.map_append]; exact hv2)
      have hq2 := (H.out.kept (below_grown' hb2) (by cases (Value.slice (some ⟨gq, 0, none⟩) n c).ownBlock <;> simp))
      have c2 := hq2.cellAt (p * 4) (by omega)
      obtain ⟨e0, _, _, _⟩ := qcells_at Q p (by have := HN.out; omega)
      rw [e0, HBf.out] at c2
      clear hv2 hg2 hat2 hb2 hq2 e0 c0 c0' c1
      go_wp2
      go_roundw
      case rel => exact ⟨bf, l ++ [la], rfl, by simp; omega, HV2, HS2, HB2⟩
      case measure => simp [intOf]; omega
    · have hp0 : p = 0 := by omega
      subst hp0
      have HS2 : Hid (spellQ Q i i = l.reverse) := Lib.hid (by rw [hs.out]; simp [spellQ])
      have HR := Lib.hid (rev_any hl.out (by omega))
      go_wp2_with fail
      refine HR.out.mono ?_
      rintro e w2 ⟨rfl, hv2, hb2⟩
      have HV2 := Lib.hid hv2
      have HB2 := Lib.hid (hb.out.trans hb2)
      clear hv2 hb2
      go_wp2
      go_ret
      exact ⟨_, rfl, by rw [HS2.out]; exact HV2.out, HB2.out⟩
end Go.Proofs.YtpmbijlldoiplaaGreatDoor
/- noPairs: the table without marks. -/
namespace Go.Proofs.YtpmbijlldoiplaaGreatDoor
open Go.RowKit Pl

theorem made_falses (k : Nat) : (madeCells (Value.bool false).cells (k * 1)).toList = (List.replicate k false).map Value.bool := by
  refine List.ext_getElem (by simp [madeCells]) fun i h1 h2 => ?_
  simp [madeCells, Value.cells, Nat.mod_one]
theorem made_nils (k : Nat) : (madeCells (Value.slice none 0 0).cells (k * 1)).toList = List.replicate k (.slice none 0 0) := by
  refine List.ext_getElem (by simp [madeCells]) fun i h1 h2 => ?_
  simp [madeCells, Value.cells, Nat.mod_one]
theorem set_next (l : List Value) (k x : Nat) (v z : Value) (hl : l.length = x) (hx : x < k) : (l ++ List.replicate (k - x) z).set x v = (l ++ [v]) ++ List.replicate (k - (x + 1)) z := by
  rw [List.set_append_right _ _ (by omega), hl, Nat.sub_self, show k - x = (k - (x + 1)) + 1 by omega, List.replicate_succ, List.set_cons_zero]
  simp
/-- where noPairs stands behind x rows -/
structure NoAt (w W : World) (g k b : Nat) (x : Nat) (bl : List Nat) : Prop where
  len : bl.length = x
  nod : ∀ y z, y < x → z < x → bl.getD y 0 = bl.getD z 0 → y = z
  outer : W.ownsRow w.heap.size 129 1 (.slice (some ⟨g, 0, none⟩) k k) k (bl.map (rowV b) ++ List.replicate (k - x) (.slice none 0 0))
  rows : ∀ y, y < x → W.ownsRow w.heap.size 4 1 (rowV b (bl.getD y 0)) b ((List.replicate b false).map Value.bool)
  below : Below w.heap.size w W
theorem NoAt.next {w W W' : World} {g k b x : Nat} {bl : List Nat} (h : NoAt w W g k b x bl) (hx : x < k) (hrow : W'.ownsRow w.heap.size 4 1 (rowV b W.heap.size) b ((List.replicate b false).map Value.bool)) (hg : W.grownBy W' none) :
    NoAt w (W'.setCell ⟨g, x, none⟩ (rowV b W.heap.size)) g k b (x + 1) (bl ++ [W.heap.size]) := by
  have ho := h.outer.kept hg (.inr (by simp [Value.ownBlock]))
  have hst := ho.stored x (rowV b W.heap.size)
  rw [set_next _ k x _ _ (by rw [List.length_map]; exact h.len) hx] at hst
  have hold : ∀ y, y < x → bl.getD y 0 < W.heap.size := fun y hy => ((h.rows y hy).lt _ rfl).2
  have hgl : ∀ y, y < x → (bl ++ [W.heap.size]).getD y 0 = bl.getD y 0 := fun y hy => by
    rw [List.getD_eq_getElem?_getD, List.getElem?_append_left (by rw [h.len]; exact hy), ← List.getD_eq_getElem?_getD]
  have hgx : (bl ++ [W.heap.size]).getD x 0 = W.heap.size := by
    rw [List.getD_eq_getElem?_getD, List.getElem?_append_right (by rw [h.len]; exact Nat.le_refl _), h.len, Nat.sub_self]; rfl
  refine ⟨by simp [h.len], fun y z hy hz e => ?_, ?_, fun y hy => ?_, ((h.below.grown hg h.below.size (fun q hq => by cases hq))).setCell (p := ⟨g, x, none⟩) (by have := own_ge h.outer g rfl; simpa using this) _⟩
  · by_cases e1 : y < x
    · by_cases e2 : z < x
      · rw [hgl y e1, hgl z e2] at e; exact h.nod y z e1 e2 e
      · obtain rfl : z = x := by omega
        rw [hgl y e1, hgx] at e; have := hold y e1; omega
    · obtain rfl : y = x := by omega
      by_cases e2 : z < y
      · rw [hgl z e2, hgx] at e; have := hold z e2; omega
      · omega
  · rw [List.map_append]; exact hst.1
  · by_cases e1 : y < x
    · rw [hgl y e1]
      exact ((h.rows y e1).kept hg (.inr (by simp [Value.ownBlock, rowV]))).kept hst.2 (own_apart ((h.rows y e1).kept hg (.inr (by simp [Value.ownBlock, rowV]))) ho (by decide))
    · obtain rfl : y = x := by omega
      rw [hgx]
      exact hrow.kept hst.2 (own_apart hrow ho (by decide))

set_option maxRecDepth 100000 in
set_option maxHeartbeats 4000000 in
theorem noPairs_any {w : World} {a : Option Addr} {n c : Nat} {b : Option Addr} {k d : Nat} {a' : Option Addr} {n' c' : Nat} {b' : Option Addr} {k' d' : Nat} {oa : Option Addr} {oc R : Nat} (hk : k ≤ 1000000) (hk' : k' ≤ 1000000) :
    Calls Tryz.prog 75 #[.agg #[.slice a n c, .slice b k d, .slice a' n' c', .slice b' k' d', .slice oa k oc, .slice (some ⟨R, 0, none⟩) k' k']] w fun e w' => ∃ g bl, e = .returned (.slice (some ⟨g, 0, none⟩) k k) ∧ RelAt w' w.heap.size g k k' bl (noF k k') ∧ Below w.heap.size w w' := by
  obtain ⟨i1, hi1, hz10, hz11, hz12⟩ := info_parts infoRowB
  obtain ⟨i2, hi2, hz20, hz21, hz22⟩ := info_parts infoBoolV
  have hb1 := (Below.refl w.heap.size w).alloc (Nat.le_refl _) (.cells #[.slice a n c, .slice b k d, .slice a' n' c', .slice b' k' d', .slice oa k oc, .slice (some ⟨R, 0, none⟩) k' k'] 134)
  have hX := Whole.new w 134 #[.slice a n c, .slice b k d, .slice a' n' c', .slice b' k' d', .slice oa k oc, .slice (some ⟨R, 0, none⟩) k' k']
  have HB1 := Lib.hid hb1
  have HX := Lib.hid hX
  clear hb1 hX
  go_enter Tryz.func75, Tryz.ntmps75
  go_wp2_with (at_make; refine wpList_make_full _ rfl _ _ 137 rfl w.heap.size 129 i1 (.slice none 0 0) 1 Tryz.underlying137 hi1 hz10 hz11 .i64 .i64 k k k rfl rfl rfl rfl (by rw [hz12]; omega) (by unfold maxLen; omega) (by simp) ?_; intro w1 hrow hg1; refine Hid.out ?_)
  refine Lib.hid ?_
  rw [made_nils] at hrow
  simp only [World.size_alloc] at hrow
  have hbw := HB1.out.grown hg1 (by simp) (fun q hq => by cases hq)
  have hN0 : NoAt w w1 (w.heap.size + 1) k k' 0 [] := ⟨rfl, fun y z hy => by omega, by simpa using hrow, fun y hy => by omega, hbw⟩
  have HN0 := Lib.hid hN0
  have HX1 : Hid (Whole w1 w.heap.size 134 #[.slice a n c, .slice b k d, .slice a' n' c', .slice b' k' d', .slice oa k oc, .slice (some ⟨R, 0, none⟩) k' k']) := Lib.hid (HX.out.grown hg1 (by simp))
  obtain ⟨g, HGg⟩ : ∃ g, Hid (w.heap.size + 1 = g) := ⟨_, Lib.hid rfl⟩
  rw [HGg.out] at HN0 ⊢
  clear hrow hg1 hbw hN0
  go_wp2
  go_loopw [4, 12] (fun _ i wr => ∃ (x : Nat) (bl : List Nat), i = .int .i64 x ∧ x ≤ k ∧ Hid (NoAt w wr g k k' x bl) ∧ Hid (Whole wr w.heap.size 134 #[.slice a n c, .slice b k d, .slice a' n' c', .slice b' k' d', .slice oa k oc, .slice (some ⟨R, 0, none⟩) k' k'])) (fun _ i _ => k - (intOf i).toNat)
  case atStart => exact ⟨0, [], rfl, Nat.zero_le _, HN0, HX1⟩
  case round =>
    obtain ⟨x, bl, rfl, hx, hN, hX⟩ := hrel
    have hzr := hN.out.below.size
    have p3 := hX.out.cell 3
    have hXl := hX.out.lt
    simp only [List.getElem?_toArray, List.getElem?_cons_succ, List.getElem?_cons_zero] at p3
    by_cases hlt : x < k
    · have i0 : (0 : Int) ≤ (x : Int) := by omega
      have i1' : (x : Int) < (k : Int) := by omega
      go_wp2_with (at_make; refine wpList_make_full _ rfl _ _ 129 rfl w.heap.size 4 i2 (.bool false) 1 Tryz.underlying129 hi2 hz20 hz21 .i64 .i64 k' k' k' rfl rfl rfl rfl (by rw [hz22]; omega) (by unfold maxLen; omega) hzr ?_; intro w2 hrow hg2; refine Hid.out ?_)
      refine Lib.hid ?_
      rw [made_falses] at hrow
      have hNx := hN.out.next hlt hrow hg2
      have ho := hN.out.outer.kept hg2 (.inr (by simp [Value.ownBlock]))
      have c1 := ho.cellAt x (by omega)
      have c2 := ho.frozenAt x
      rw [List.getElem?_append_right (by rw [List.length_map, hN.out.len]; exact Nat.le_refl _), List.length_map, hN.out.len, Nat.sub_self, List.getElem?_replicate, if_pos (by omega)] at c1
      have HNx := Lib.hid hNx
      have hXx := (hX.out.grown hg2 (by simp)).grown (ho.stored x (rowV k' wr.heap.size)).2 (own_whole ho (hX.out.grown hg2 (by simp)) (by decide))
      have HXx := Lib.hid hXx
      unfold rowV at HNx HXx
      clear hrow hg2 hNx ho hXx p3
      go_wp2
      go_roundw
      case rel => exact ⟨x + 1, _, by go_num, by omega, HNx, HXx⟩
      case measure => simp [intOf]; omega
    · have hxk : x = k := by omega
      subst hxk
      have HF : Hid (RelAt wr w.heap.size g x k' bl (noF x k')) := Lib.hid (by
        have h1 := hN.out
        refine ⟨noF_shp x k', h1.len, h1.nod, ?_, fun y hy => ?_⟩
        · have := h1.outer
          rwa [Nat.sub_self, List.replicate_zero, List.append_nil] at this
        · have := h1.rows y hy
          have e : (noF x k').getD y [] = List.replicate k' false := by simp [noF, List.getD, hy]
          rw [e]; exact this)
      go_wp2
      go_ret
      exact ⟨g, bl, rfl, HF.out, hN.out.below⟩
end Go.Proofs.YtpmbijlldoiplaaGreatDoor
/- slices.Collect at pairs; the iterator of a table's marks. -/
namespace Go.Proofs.YtpmbijlldoiplaaGreatDoor
open Go.RowKit Go.Shelf Pl

theorem infoPair : (Tryz.prog.info? 130).map (fun i => (i.zero, i.size, i.bytes)) = some (some (.agg #[.int .i64 0, .int .i64 0]), 2, 16) := by kernel_rfl
def pcells (L : List (Nat × Nat)) : List Value := L.flatMap fun p => [.int .i64 p.1, .int .i64 p.2]
theorem cell_two_new (W : World) (u v : Value) (t : TypeId) : ∀ j x, [u, v][j]? = some x → (W.alloc (.cells #[u, v] t)).cell? ((⟨W.heap.size, 0, none⟩ : Addr).add j) = some x := fun j x hx => by
  have hj : j < 2 := by simpa using (List.getElem?_eq_some_iff.1 hx).1
  rw [addr_add, (Whole.new W t #[u, v]).cell, ← hx]
  simp

attribute [local go_sem] Oper.semAt_some

set_option maxRecDepth 100000 in
set_option maxHeartbeats 2000000 in
theorem appendSeq2_any (gf : Nat) (lb : Array Value) (ok : List (Nat × Nat) → (Nat × Nat) → Prop) (S : List (Nat × Nat) → Prop) (N : Nat) (hN : N ≤ 10000000) (hok : ∀ pre k, ok pre k → pre.length < N)
    (eg : ∀ args w, (callFunc gf args).run Tryz.prog w = .ok (.enter gf args) w) (w : World)
    (hit : ∀ (B : Nat) (I : List (Nat × Nat) → World → Prop), (∀ pre V, I pre V → Below w.heap.size w V) → IterOf Tryz.prog gf lb (fun p : Nat × Nat => #[Value.agg #[.int .i64 p.1, .int .i64 p.2]]) ok S B I (fun _ _ _ => False)) :
    Calls Tryz.prog 124 #[.slice none 0 0, .func (.func gf) #[] lb] w fun e w' => ∃ v xs, e = .returned v ∧ S xs ∧ w'.ownsRow w.heap.size 130 2 v xs.length (pcells xs) ∧ Below w.heap.size w w' := by
  refine (callsIn_wide (n := 3)).1 ?_
  obtain ⟨i0, hi, hz0, hz1, hz2⟩ := info_parts infoPair
  refine callsIn_of_wp_marks Tryz.func124 rfl trivial ?_ rfl
  simp only [Tryz.ntmps124, List.size_toArray, List.length_cons, List.length_nil, Nat.reduceAdd, Nat.reduceSub, Array.replicate_succ, Array.replicate_zero, List.push_toArray, List.append_toArray, List.nil_append, List.cons_append]
  gi_wp2
  have bO := Boxed.new w 52 (.slice none 0 0)
  have hB0 : Below w.heap.size w (w.alloc (.cells #[.slice none 0 0] 52)) := (Below.refl _ w).alloc (Nat.le_refl _) _
  have hlen : ∀ pre k, ok pre k → pre.length ≤ 10000000 := fun pre k h => by have := hok pre k h; omega
  have hOwn : OwnFrom (w.alloc (.cells #[.slice none 0 0] 52)).heap.size (fun pre W => (∃ v, Boxed W w.heap.size 52 v ∧ W.ownsRow w.heap.size 130 2 v pre.length (pcells pre)) ∧ Below w.heap.size w W) :=
    OwnFrom.and (Own.from (fun s X Y row hs hg hr => by
      obtain ⟨v, hv, hrow, _⟩ := holdsRow_own w.heap.size w.heap.size 52 130 2 (fun pre : List (Nat × Nat) => pre.length) (fun pre => pcells pre) (fun _ _ => True) s X Y row (by obtain ⟨v, a, b⟩ := hs; exact ⟨v, a, b, trivial⟩) hg hr
      exact ⟨v, hv, hrow⟩) _) (ownFrom_below (Nat.le_refl _) (by simp))
  refine range_lawA (gf := gf) (lb := lb) rfl eg (fun _ => rfl)
    (fun pre W => (∃ v, Boxed W w.heap.size 52 v ∧ W.ownsRow w.heap.size 130 2 v pre.length (pcells pre)) ∧ Below w.heap.size w W)
    (fun _ _ _ => False) hOwn
    (fun _ _ _ _ _ hs _ _ => hs)
    ⟨⟨_, bO, World.ownsRow_nil _ _ _ _⟩, hB0⟩
    (fun pre x a1 W => ∃ q, W.heap[q]? = some (.cells #[.int .i64 x.1, .int .i64 x.2] 130 (0, 0)) ∧
      a1 = { tmps := #[.slice none 0 0, .func (.func gf) #[] lb, .pointer (some ⟨w.heap.size, 0, none⟩), undef, .slice none 0 0, .pointer (some ⟨q, 0, none⟩), .func (.func gf) #[] lb, .agg #[.int .i64 x.1, .int .i64 x.2], undef, undef, undef, undef, undef], defers := [] } ∧
      ((∃ v, Boxed W w.heap.size 52 v ∧ W.ownsRow w.heap.size 130 2 v pre.length (pcells pre)) ∧ Below w.heap.size w W))
    (fun pre x a1 _ X Y row h hg hr => by
      obtain ⟨q, hq, ha, hI⟩ := h
      refine ⟨q, ?_, ha, hOwn pre X Y row hI hg hr⟩
      rw [hg.block q (Array.getElem?_eq_some_iff.1 hq).1 (fun e => by
        obtain ⟨_, o, ho, hc⟩ := hr q e.symm
        rw [hq] at ho; cases ho; cases hc)]
      exact hq)
    (hit _ _ (fun pre V h => h.2)) ?assign ?body ?done ?stop
  case assign =>
    intro l pre x W K hI _ hK
    gi_wp2
    refine hK _ _ ?_ ⟨W.heap.size, ?_, rfl, ?_⟩
    · exact Stays.alloc _ W _
    · exact heap_alloc_new W _
    · exact hOwn.alloc _ hI
  case body =>
    rintro l pre x a1 W ⟨q, hq, rfl, ⟨v, hv, hrow⟩, hB⟩ ho
    have hc := hv.cell
    have hl := hlen _ _ ho
    have hw : Whole W q 130 #[.int .i64 x.1, .int .i64 x.2] := hq
    have c0 := hw.cell 0
    have c1 := hw.cell 1
    simp only [List.getElem?_toArray, List.getElem?_cons_succ, List.getElem?_cons_zero] at c0 c1
    have hql := hw.lt
    gi_wp2_with (gi_at_builtin; refine wpListIn_append_own _ rfl _ _ 52 rfl w.heap.size 130 i0 (.agg #[.int .i64 0, .int .i64 0]) 2 16 Tryz.underlying52 hi hz0 hz1 hz2 rfl (by decide) _ _ _ rfl (hrow.alloc _) ⟨W.heap.size, 0, none⟩ 1 1 [.int .i64 x.1, .int .i64 x.2] rfl rfl (cell_two_new _ _ _ _) (by simp [Value.oneCell']) (by unfold maxLen; omega) (by omega) (by have := hB.size; simp; omega) ?_; intro v' w1 hown' hgrow _; obtain ⟨g', cap', rfl⟩ := ownsRow_succ hown'; obtain ⟨hv1, hv2, hr2, hk2, hb2⟩ := hv.appended (by decide) hrow hB.size (Nat.le_refl _) hown' hgrow; have hc1 := hv1.cell; have hf1 := hv1.frozen)
    exact ⟨.others hk2, ⟨_, hv2, by simpa [pcells] using hr2⟩, hB.trans hb2⟩
  case done =>
    rintro D ys W hD hS ⟨⟨v, hv, hrow⟩, hB⟩ hK
    have hc := hv.cell
    gi_wp2
    refine ⟨by simp, .inl ⟨_, _, rfl, run_takeDeferred hK, ?_⟩⟩
    exact ⟨_, results_tmp rfl _ _ _, v, ys, rfl, hS, ownsRow_putObj hrow _ hK rfl, hB.trans (belowK_b (w := w) (Nat.le_refl _) W D _ _ (by simp at hD; omega) hK rfl rfl)⟩
  case stop =>
    rintro D c pre W _ h _
    exact h.elim

set_option maxHeartbeats 400000 in
theorem collect2_any (gf : Nat) (lb : Array Value) (ok : List (Nat × Nat) → (Nat × Nat) → Prop) (S : List (Nat × Nat) → Prop) (N : Nat) (hN : N ≤ 10000000) (hok : ∀ pre k, ok pre k → pre.length < N)
    (eg : ∀ args w, (callFunc gf args).run Tryz.prog w = .ok (.enter gf args) w) (w : World)
    (hit : ∀ (B : Nat) (I : List (Nat × Nat) → World → Prop), (∀ pre V, I pre V → Below w.heap.size w V) → IterOf Tryz.prog gf lb (fun p : Nat × Nat => #[Value.agg #[.int .i64 p.1, .int .i64 p.2]]) ok S B I (fun _ _ _ => False)) :
    Calls Tryz.prog 80 #[.func (.func gf) #[] lb] w fun e w' => ∃ v xs, e = .returned v ∧ S xs ∧ w'.ownsRow w.heap.size 130 2 v xs.length (pcells xs) ∧ Below w.heap.size w w' := by
  have HC := Lib.hid (appendSeq2_any gf lb ok S N hN hok eg w hit)
  clear hit hok eg hN
  go_enter Tryz.func80, Tryz.ntmps80
  go_wp2_with fail
  refine HC.out.mono ?_
  rintro e w1 ⟨v, xs, rfl, hS, hrow, hB⟩
  have HR := Lib.hid hrow
  clear hrow
  go_wp2
  go_ret
  exact ⟨v, xs, rfl, hS, HR.out, hB⟩
end Go.Proofs.YtpmbijlldoiplaaGreatDoor
/- The iterator of a table's marks; the pairs that are collected. -/
namespace Go.Proofs.YtpmbijlldoiplaaGreatDoor
open Go.RowKit Go.Shelf Pl

/-- the marked pairs of the first x rows -/
def preO (F : Mat) (x : Nat) : List (Nat × Nat) := (List.range x).flatMap fun x => (rowF (F.getD x [])).map fun y => (x, y)
def preI (F : Mat) (x y : Nat) : List (Nat × Nat) := preO F x ++ ((List.range y).filter fun z => getF F x z).map fun z => (x, z)
theorem allF_preO (F : Mat) : allF F = preO F F.length := rfl
theorem preO_zero (F : Mat) : preO F 0 = [] := rfl
theorem preI_zero (F : Mat) (x : Nat) : preI F x 0 = preO F x := by simp [preI]
theorem preI_yes {F : Mat} {x y : Nat} (h : getF F x y = true) : preI F x (y + 1) = preI F x y ++ [(x, y)] := by
  unfold preI
  rw [List.range_succ, List.filter_append, List.map_append, ← List.append_assoc]
  simp [h]
theorem preI_no {F : Mat} {x y : Nat} (h : getF F x y = false) : preI F x (y + 1) = preI F x y := by
  unfold preI
  rw [List.range_succ, List.filter_append]
  simp [h]
theorem preI_row {F : Mat} {a b x : Nat} (h : Shp F a b) (hx : x < a) : preI F x b = preO F (x + 1) := by
  unfold preI preO
  rw [List.range_succ, List.flatMap_append, List.flatMap_singleton]
  unfold rowF getF
  rw [h.2 x hx]
theorem preO_le (F : Mat) {x x' : Nat} (h : x ≤ x') : preO F x <+: preO F x' := by
  obtain ⟨d, rfl⟩ := Nat.exists_eq_add_of_le h
  unfold preO
  rw [List.range_add, List.flatMap_append]
  exact List.prefix_append _ _
theorem preI_le (F : Mat) (x : Nat) {y y' : Nat} (h : y ≤ y') : preI F x y <+: preI F x y' := by
  obtain ⟨d, rfl⟩ := Nat.exists_eq_add_of_le h
  unfold preI
  rw [List.range_add, List.filter_append, List.map_append, ← List.append_assoc]
  exact List.prefix_append _ _
theorem pre_ok {F : Mat} {a b x y : Nat} (h : Shp F a b) (hx : x < a) (hy : y < b) (hm : getF F x y = true) : preI F x y ++ [(x, y)] <+: allF F := by
  rw [← preI_yes hm, allF_preO, h.1]
  have h1 := preI_le F x (show y + 1 ≤ b by omega)
  rw [preI_row h hx] at h1
  exact h1.trans (preO_le F (by omega))

attribute [local go_sem] Oper.semAt_some

set_option maxRecDepth 100000 in
set_option maxHeartbeats 2000000 in
theorem all_iter (B B' C g a b : Nat) (bl : List Nat) (F : Mat) (ha : a ≤ 1000000) (hb1 : b ≤ 1000000) (hs : Shp F a b) (I : List (Nat × Nat) → World → Prop) (Ix : Code → List (Nat × Nat) → World → Prop)
    (hC : ∀ pre V, I pre V → V.cell? ⟨C, 0, none⟩ = some (.slice (some ⟨g, 0, none⟩) a a)) (hR : ∀ pre V, I pre V → RelAt V B' g a b bl F) :
    IterOf Tryz.prog 125 #[.pointer (some ⟨C, 0, none⟩)] (fun p : Nat × Nat => #[Value.agg #[.int .i64 p.1, .int .i64 p.2]]) (fun pre k => pre ++ [k] <+: allF F) (fun xs => xs = allF F) B I Ix := by
  intro l Bk Bx W _ _ hY h0 hb0
  have hc0 := hC _ _ h0
  have HR := Lib.hid hR
  have HS := Lib.hid hs
  clear hR hC hs
  have HY := Lib.hid hY
  clear hY
  refine callsIn_of_wp Tryz.func125 rfl trivial ?_ rfl
  simp only [Tryz.ntmps125, List.size_toArray, List.length_cons, List.length_nil, Nat.reduceAdd, Nat.reduceSub, Array.replicate_succ, Array.replicate_zero, List.push_toArray, List.append_toArray, List.nil_append, List.cons_append]
  gi_wp2
  gi_loopw [3, 4, 5, 6, 9, 16] (fun _ _ _ _ p _ V => ∃ x : Nat, p = .int .i64 x ∧ x ≤ a ∧ Hid (I (preO F x) V ∧ Bk V)) (fun _ _ _ _ p _ _ => a - (intOf p).toNat)
  case atStart => exact ⟨0, rfl, Nat.zero_le _, Lib.hid ⟨h0, hb0⟩⟩
  case round =>
    obtain ⟨x, rfl, hx, hI⟩ := hrel
    by_cases hlt : x < a
    · have hrr := HR.out _ _ hI.out.1
      have c1 : wr.cell? ⟨g, x, none⟩ = some (.slice (some ⟨bl.getD x 0, 0, none⟩) b b) := by
        have h1 := hrr.outer.cellAt x (by omega)
        rw [h1, List.getElem?_map, List.getElem?_eq_getElem (by rw [hrr.len]; exact hlt), List.getD_eq_getElem?_getD, List.getElem?_eq_getElem (by rw [hrr.len]; exact hlt)]
        rfl
      obtain ⟨r, HRr⟩ : ∃ r, Hid (bl.getD x 0 = r) := ⟨_, Lib.hid rfl⟩
      rw [HRr.out] at c1
      have i0 : (0 : Int) ≤ (x : Int) := by omega
      have i1 : (x : Int) < (a : Int) := by omega
      have HI0 : Hid (I (preI F x 0) wr ∧ Bk wr) := Lib.hid (by rw [preI_zero]; exact hI.out)
      obtain ⟨V0, hV0⟩ : ∃ z, z = wr := ⟨_, rfl⟩
      subst hV0
      clear hrr
      gi_wp2
      gi_loopw [5, 6, 16] (fun _ _ q V => ∃ y : Nat, q = .int .i64 y ∧ y ≤ b ∧ Hid (I (preI F x y) V ∧ Bk V)) (fun _ _ q _ => b - (intOf q).toNat)
      case atStart => exact ⟨0, rfl, Nat.zero_le _, HI0⟩
      case round =>
        obtain ⟨y, rfl, hy, hI2⟩ := hrel
        by_cases hlt2 : y < b
        · have c2 := ((HR.out _ _ hI2.out.1).cells hlt hlt2).2.1
          rw [HRr.out] at c2
          have j0 : (0 : Int) ≤ (y : Int) := by omega
          have j1 : (y : Int) < (b : Int) := by omega
          cases hm : getF F x y
          · rw [hm] at c2
            have HIn : Hid (I (preI F x (y + 1)) wr ∧ Bk wr) := Lib.hid (by rw [preI_no hm]; exact hI2.out)
            clear hm
            gi_wp2
            refine ⟨(fun f h => by cases h), ?_⟩
            gi_wp2
            go_roundw
            case rel => exact ⟨y + 1, by go_num, by omega, HIn⟩
            case measure => simp [intOf]; omega
          · rw [hm] at c2
            have hok := pre_ok HS.out hlt hlt2 hm
            obtain ⟨fn, tmps, assign, body, hyy, hRn⟩ := HY.out () (preI F x y) (x, y) wr hI2.out.1 hI2.out.2 hok
            have HM := Lib.hid hm
            clear hm hok
            gi_wp2
            refine hRn.mono ?_
            rintro e W3 (⟨rfl, hI3, hb3⟩ | ⟨rfl, c, hx3, hb3⟩)
            · have HIn : Hid (I (preI F x (y + 1)) W3 ∧ Bk W3) := Lib.hid (by rw [preI_yes HM.out]; exact ⟨hI3, hb3⟩)
              clear hI3 hb3
              gi_wp2
              go_roundw
              case rel => exact ⟨y + 1, by go_num, by omega, HIn⟩
              case measure => simp [intOf]; omega
            · gi_wp2
              refine bodyPost_ret (results_none rfl _ _ _) rfl ?_
              exact ⟨⟨_, rfl⟩, .inr ⟨_, c, hx3, hb3⟩⟩
        · have HIn : Hid (I (preO F (x + 1)) wr ∧ Bk wr) := Lib.hid (by
            have : y = b := by omega
            rw [← preI_row HS.out hlt, ← this]; exact hI2.out)
          gi_wp2
          go_roundw
          case rel => exact ⟨x + 1, by go_num, by omega, HIn⟩
          case measure => simp [intOf]; omega
    · have HIn : Hid (I (allF F) wr ∧ Bk wr) := Lib.hid (by
        have : x = F.length := by rw [HS.out.1]; omega
        rw [allF_preO, ← this]; exact hI.out)
      gi_wp2
      go_end0
      exact ⟨⟨_, rfl⟩, .inl ⟨_, (), rfl, HIn.out.1, HIn.out.2⟩⟩
end Go.Proofs.YtpmbijlldoiplaaGreatDoor
/- Where spec.Satisfies stands. -/
namespace Go.Proofs.YtpmbijlldoiplaaGreatDoor
open Go.RowKit Pl

theorem rowF_len (r : List Bool) : (rowF r).length ≤ r.length := by
  unfold rowF
  exact Nat.le_trans (List.length_filter_le _ _) (by simp)
theorem preO_len {F : Mat} {a b : Nat} (h : Shp F a b) : ∀ x, x ≤ a → (preO F x).length ≤ x * b
  | 0, _ => by simp [preO]
  | x + 1, hx => by
    have ih := preO_len h x (by omega)
    have h1 := rowF_len (F.getD x [])
    rw [h.2 x (by omega)] at h1
    unfold preO at ih ⊢
    rw [List.range_succ, List.flatMap_append, List.length_append, List.flatMap_singleton, List.length_map, Nat.succ_mul]
    omega
theorem set_same {r : List Bool} {y : Nat} (hy : y < r.length) (hg : r.getD y false = true) : r.set y true = r := by
  refine List.ext_getElem? fun i => ?_
  rw [List.getElem?_set]
  by_cases e : y = i
  · subst e
    rw [if_pos rfl, if_pos hy]
    rw [List.getD_eq_getElem?_getD, List.getElem?_eq_getElem hy, Option.getD_some] at hg
    rw [List.getElem?_eq_getElem hy, hg]
  · rw [if_neg e]
theorem setF_same {F : Mat} {a b x y : Nat} (h : Shp F a b) (hx : x < a) (hy : y < b) (hg : getF F x y = true) : setF F x y = F := by
  have h1 : (F.getD x []).set y true = F.getD x [] := set_same (by rw [h.2 x hx]; exact hy) hg
  unfold setF
  rw [h1]
  refine List.ext_getElem? fun i => ?_
  rw [List.getElem?_set]
  by_cases e : x = i
  · subst e
    rw [if_pos rfl, if_pos (by rw [h.1]; exact hx), List.getD_eq_getElem?_getD, List.getElem?_eq_getElem (by rw [h.1]; exact hx)]
    rfl
  · rw [if_neg e]
theorem all_any (g a : Nat) (w : World) :
    Calls Tryz.prog 81 #[.slice (some ⟨g, 0, none⟩) a a] w fun e w' => e = .returned (.func (.func 125) #[] #[.pointer (some ⟨w.heap.size, 0, none⟩)]) ∧ w.alloc (.cells #[.slice (some ⟨g, 0, none⟩) a a] 137) = w' := by
  go_enter Tryz.func81, Tryz.ntmps81
  go_wp2
  go_ret
  exact ⟨rfl, rfl⟩
theorem collectAll_any {w : World} {B C g a b : Nat} {bl : List Nat} {F : Mat} (hc : w.cell? ⟨C, 0, none⟩ = some (.slice (some ⟨g, 0, none⟩) a a)) (h : RelAt w B g a b bl F) (ha : a ≤ 1000000) (hb : b ≤ 1000000) (hl : a * b ≤ 10000000) :
    Calls Tryz.prog 80 #[.func (.func 125) #[] #[.pointer (some ⟨C, 0, none⟩)]] w fun e w' => ∃ v, e = .returned v ∧ w'.ownsRow w.heap.size 130 2 v (allF F).length (pcells (allF F)) ∧ Below w.heap.size w w' := by
  have hlen : (allF F).length ≤ 10000000 := by
    have h1 := preO_len h.shp a (Nat.le_refl _)
    rw [allF_preO, h.shp.1]
    omega
  refine (collect2_any _ _ (fun pre k => pre ++ [k] <+: allF F) (fun xs => xs = allF F) (allF F).length hlen (fun pre k hp => by
    have := hp.length_le
    rw [List.length_append, List.length_singleton] at this
    omega) (enters_of Tryz.func125 (by kernel_rfl) rfl) w
    (fun B2 I hI => all_iter B2 B C g a b bl F ha hb h.shp I _ (fun pre V hv => ((hI pre V hv).cell (lt_of_cell hc)).trans hc) (fun pre V hv => h.below (hI pre V hv)))).mono ?_
  rintro e w' ⟨v, xs, rfl, rfl, hr, hbw⟩
  exact ⟨v, rfl, hr, hbw⟩

/-- what the walk holds between two operations -/
structure StAt (w W : World) (G g : Nat) (bl : List Nat) (a : Option Addr) (n c : Nat) (b : Option Addr) (k d : Nat) (m : Syst) (a' : Option Addr) (n' c' : Nat) (b' : Option Addr) (k' d' : Nat) (s : Spc) (oa : Option Addr) (oc R : Nat) (qv : Value) (Q : List Wt) (F : Mat) : Prop where
  sysb : Whole W w.heap.size 25 #[.slice a n c, .slice b k d]
  ver : Whole W (w.heap.size + 2) 56 #[.bool false, .slice none 0 0, .slice none 0 0, .int .i64 0]
  tri : Whole W G 134 #[.slice a n c, .slice b k d, .slice a' n' c', .slice b' k' d', .slice oa k oc, .slice (some ⟨R, 0, none⟩) k' k']
  tr : TrArg W w.heap.size a n c b k d m a' n' c' b' k' d' s (.slice oa k oc) R
  rel : RelAt W w.heap.size g k k' bl F
  que : W.ownsRow w.heap.size 143 4 qv Q.length (qcells Q)
  low : w.heap.size + 2 < G
  below : Below w.heap.size w W
section
variable {w W W' : World} {G g : Nat} {bl : List Nat} {a : Option Addr} {n c : Nat} {b : Option Addr} {k d : Nat} {m : Syst} {a' : Option Addr} {n' c' : Nat} {b' : Option Addr} {k' d' : Nat} {s : Spc} {oa : Option Addr} {oc R : Nat} {qv : Value} {Q : List Wt} {F : Mat}
theorem StAt.up (h : StAt w W G g bl a n c b k d m a' n' c' b' k' d' s oa oc R qv Q F) (hb : Below W.heap.size W W') : StAt w W' G g bl a n c b k d m a' n' c' b' k' d' s oa oc R qv Q F :=
  ⟨h.sysb.below hb h.sysb.lt, h.ver.below hb h.ver.lt, h.tri.below hb h.tri.lt, h.tr.below hb, h.rel.below hb, own_up' h.que hb, h.low, h.below.trans (hb.mono h.below.size)⟩
/-- .. behind a store into a row of marks, or behind what it has become -/
theorem TrArg.grown {B : Nat} {vo : Value} {v : Value} {xs : List Value} {e : TypeId} {size q : Nat} (h : TrArg W B a n c b k d m a' n' c' b' k' d' s vo R) (w0 : World) (hs : SysArg w0 a n c b k d m) (hs' : SpecArg w0 a' n' c' b' k' d' s) (hb : Below w0.heap.size w0 W') (hrow : W.ownsRow B e size v q xs) (hne1 : 3 ≠ e) (hne2 : 196 ≠ e) (hg : W.grownBy W' v.ownBlock) : TrArg W' B a n c b k d m a' n' c' b' k' d' s vo R :=
  ⟨hs.below hb, hs'.below hb, h.off.kept hg (own_apart h.off hrow hne1), h.acc.kept hg (own_apart h.acc hrow hne2)⟩
theorem StAt.mark (h : StAt w W G g bl a n c b k d m a' n' c' b' k' d' s oa oc R qv Q F) (hs : SysArg w a n c b k d m) (hs' : SpecArg w a' n' c' b' k' d' s) {x : Nat} (hx : x < k) {F' : Mat} (hr : RelAt W' w.heap.size g k k' bl F') (hg : W.grownBy W' (some (bl.getD x 0))) : StAt w W' G g bl a n c b k d m a' n' c' b' k' d' s oa oc R qv Q F' := by
  have hrow := h.rel.rows x hx
  have hB : Below w.heap.size w W' := h.below.grown hg h.below.size (fun q hq => by cases hq; exact own_ge hrow _ rfl)
  exact ⟨h.sysb.grown hg (own_whole hrow h.sysb (by decide)), h.ver.grown hg (own_whole hrow h.ver (by decide)), h.tri.grown hg (own_whole hrow h.tri (by decide)), h.tr.grown w hs hs' hB hrow (by decide) (by decide) hg, hr, h.que.kept hg (own_apart h.que hrow (by decide)), h.low, hB⟩
theorem RelAt.grown {B : Nat} {v : Value} {xs : List Value} {e : TypeId} {size q : Nat} {x y : Nat} (h : RelAt W B g x y bl F) (hrow : W.ownsRow B e size v q xs) (hne1 : 4 ≠ e) (hne2 : 129 ≠ e) (hg : W.grownBy W' v.ownBlock) : RelAt W' B g x y bl F :=
  ⟨h.shp, h.len, h.nod, h.outer.kept hg (own_apart h.outer hrow hne2), fun z hz => (h.rows z hz).kept hg (own_apart (h.rows z hz) hrow hne1)⟩
/-- .. behind an append onto the queue -/
theorem StAt.push (h : StAt w W G g bl a n c b k d m a' n' c' b' k' d' s oa oc R qv Q F) (hs : SysArg w a n c b k d m) (hs' : SpecArg w a' n' c' b' k' d' s) {o : Obj} {qv' : Value} {t : Wt} (hown : W'.ownsRow w.heap.size 143 4 qv' (Q.length + 1) (qcells Q ++ [.int .i64 t.before, .int .i64 t.last, .int .i64 t.x, .int .i64 t.y])) (hg : (W.alloc o).grownBy W' qv.ownBlock) : StAt w W' G g bl a n c b k d m a' n' c' b' k' d' s oa oc R qv' (Q ++ [t]) F := by
  have h1 := h.up ((Below.refl _ W).alloc (Nat.le_refl _) o)
  have hB : Below w.heap.size w W' := h1.below.grown hg h1.below.size (own_ge h1.que)
  exact ⟨h1.sysb.grown hg (own_whole h1.que h1.sysb (by decide)), h1.ver.grown hg (own_whole h1.que h1.ver (by decide)), h1.tri.grown hg (own_whole h1.que h1.tri (by decide)), h1.tr.grown w hs hs' hB h1.que (by decide) (by decide) hg, h1.rel.grown h1.que (by decide) (by decide) hg, by rw [List.length_append, List.length_singleton, qcells_snoc]; exact hown, h1.low, hB⟩
end
end Go.Proofs.YtpmbijlldoiplaaGreatDoor
/- spec.Satisfies, where both arguments are valid and have the same actions. -/
namespace Go.Proofs.YtpmbijlldoiplaaGreatDoor
open Go.RowKit Pl

theorem infoWait : (Tryz.prog.info? 143).map (fun i => (i.zero, i.size, i.bytes)) = some (some (.agg #[.int .i64 0, .int .i64 0, .int .i64 0, .int .i64 0]), 4, 32) := by kernel_rfl
theorem four_src (W : World) (p q u v : Value) (t : TypeId) : SrcAt (W.alloc (.cells #[p, q, u, v] t)) (some ⟨W.heap.size, 0, none⟩) [p, q, u, v] := fun j x hx => by
  have hj : j < 4 := by simpa using (List.getElem?_eq_some_iff.1 hx).1
  refine ⟨_, rfl, ?_⟩
  rw [add_plainly, (Whole.new W t #[p, q, u, v]).cell, ← hx]
  simp

set_option maxRecDepth 100000 in
set_option maxHeartbeats 16000000 in
theorem Satisfies_ok {w : World} {a : Option Addr} {n c : Nat} {b : Option Addr} {k d : Nat} {m : Syst} {a' : Option Addr} {n' c' : Nat} {b' : Option Addr} {k' d' : Nat} {s : Spc} {e0 e1 e2 : Addr} (E : Errs w e0 e1 e2) (A : SysArg w a n c b k d m) (A' : SpecArg w a' n' c' b' k' d' s) (hm : sysB m = true) (hs : spcB s = true) (ha : m.acts = s.acts) :
    Calls Tryz.prog 27 #[.agg #[.slice a n c, .slice b k d], .agg #[.slice a' n' c', .slice b' k' d']] w fun e w' => Below w.heap.size w w' ∧
      ((∃ L v, SatYes m s L ∧ e = .returned (.tuple #[.agg #[.bool true, v, .slice none 0 0, .int .i64 0], .int .i64 0]) ∧ w'.ownsRow w.heap.size 130 2 v L.length (pcells L)) ∨
        ∃ wd x v, SatNo m s wd x ∧ e = .returned (.tuple #[.agg #[.bool false, .slice none 0 0, v, .int .i64 (x : Nat)], .int .i64 0]) ∧ NumO w' w.heap.size v wd) := by
  obtain ⟨i4, hi4, hz40, hz41, hz42⟩ := info_parts infoWait
  have hk5 : k ≤ 5000 := by have := ((sysB_iff m).1 hm).2.2.1; have := A.len; omega
  have hk1 : 1 ≤ k := by have := ((sysB_iff m).1 hm).2.1; have := A.len; omega
  have hk5' : k' ≤ 500 := by have := ((spcB_iff s).1 hs).2.2.1; have := A'.len; omega
  have hk1' : 1 ≤ k' := by have := ((spcB_iff s).1 hs).2.1; have := A'.len; omega
  have hkk : k * k' ≤ 2500000 := Nat.le_trans (Nat.mul_le_mul hk5 hk5') (by decide)
  have hB := (Below.refl w.heap.size w).alloc (Nat.le_refl _) (.cells #[.slice a n c, .slice b k d] 25)
  have hB2 := hB.alloc (by simp) (.cells #[.slice a' n' c', .slice b' k' d'] 40)
  have hB3 := hB2.alloc (by simp; omega) (.cells #[.bool false, .slice none 0 0, .slice none 0 0, .int .i64 0] 56)
  have hW1 := ((Whole.new w 25 #[.slice a n c, .slice b k d]).alloc (.cells #[.slice a' n' c', .slice b' k' d'] 40)).alloc (.cells #[.bool false, .slice none 0 0, .slice none 0 0, .int .i64 0] 56)
  have hW3 := Whole.new ((w.alloc (.cells #[.slice a n c, .slice b k d] 25)).alloc (.cells #[.slice a' n' c', .slice b' k' d'] 40)) 56 #[.bool false, .slice none 0 0, .slice none 0 0, .int .i64 0]
  simp only [World.size_alloc] at hW3
  obtain ⟨w0, HW0⟩ : ∃ z, Hid (((w.alloc (.cells #[.slice a n c, .slice b k d] 25)).alloc (.cells #[.slice a' n' c', .slice b' k' d'] 40)).alloc (.cells #[.bool false, .slice none 0 0, .slice none 0 0, .int .i64 0] 56) = z) := ⟨_, Lib.hid rfl⟩
  have hz0 : w0.heap.size = w.heap.size + 3 := by rw [← HW0.out]; simp
  rw [HW0.out] at hB3 hW1 hW3
  have HT := Lib.hid (newTrial_ok (E.below hB3) (A.below hB3) (A'.below hB3) hm hs ha)
  have HA := Lib.hid A
  have HA' := Lib.hid A'
  have HM := Lib.hid hm
  have HS := Lib.hid hs
  have HB0 := Lib.hid hB3
  have HW1 := Lib.hid hW1
  have HW3 := Lib.hid hW3
  have HZ0 := Lib.hid hz0
  have HKm : Hid (k = m.states.length) := Lib.hid A.len
  have HKs : Hid (k' = s.states.length) := Lib.hid A'.len
  have HOL : Hid ((offL m).length = k) := Lib.hid (by unfold offL; rw [List.length_map]; exact A.len.symm)
  clear hB hB2 hB3 A A' E hW1 hW3 hz0 hm hs ha
  go_enter Tryz.func27, Tryz.ntmps27
  go_wp2_with fail
  rw [HW0.out]
  refine HT.out.mono ?_
  rintro e w1 ⟨vo, R, rfl, hoff, hacc, hb1⟩
  obtain ⟨oa, oc, rfl⟩ := own_slice' hoff
  have hoff' := hoff
  unfold NumO at hoff'
  rw [HOL.out] at hoff'
  rcases hoff.2 with ⟨hq, h0⟩ | ⟨_, _, _, hq, _⟩
  · rw [HOL.out] at h0; omega
  have hlen1 : (offL m).length = k := HOL.out
  rw [hlen1] at hoff ⊢
  have hz1 : w.heap.size + 3 ≤ w1.heap.size := by have := hb1.size; have := HZ0.out; omega
  obtain ⟨G, HG⟩ : ∃ G, Hid (w1.heap.size = G) := ⟨_, Lib.hid rfl⟩
  have hbx := Whole.new w1 134 #[.slice a n c, .slice b k d, .slice a' n' c', .slice b' k' d', .slice oa k oc, .slice (some ⟨R, 0, none⟩) k' k']
  have hb2 := (Below.refl w1.heap.size w1).alloc (Nat.le_refl _) (.cells #[.slice a n c, .slice b k d, .slice a' n' c', .slice b' k' d', .slice oa k oc, .slice (some ⟨R, 0, none⟩) k' k'] 134)
  obtain ⟨w2, HW2⟩ : ∃ z, Hid (w1.alloc (.cells #[.slice a n c, .slice b k d, .slice a' n' c', .slice b' k' d', .slice oa k oc, .slice (some ⟨R, 0, none⟩) k' k'] 134) = z) := ⟨_, Lib.hid rfl⟩
  rw [HW2.out] at hbx hb2
  have hb02 : Below w.heap.size w w2 := HB0.out.trans ((hb1.trans (hb2.mono hb1.size)).mono HB0.out.size)
  have hlo : ∀ {e : TypeId} {size q : Nat} {v : Value} {xs : List Value}, w1.ownsRow w0.heap.size e size v q xs → w2.ownsRow w.heap.size e size v q xs := fun h => own_low (own_up' h hb2) HB0.out.size
  have hTr : TrArg w2 w.heap.size a n c b k d m a' n' c' b' k' d' s (.slice oa k oc) R := ⟨HA.out.below hb02, HA'.out.below hb02, hlo hoff, hlo hacc⟩
  have hs2 : Whole w2 w.heap.size 25 #[.slice a n c, .slice b k d] := (HW1.out.below hb1 HW1.out.lt).below hb2 (by omega)
  have hv2 : Whole w2 (w.heap.size + 2) 56 #[.bool false, .slice none 0 0, .slice none 0 0, .int .i64 0] := (HW3.out.below hb1 HW3.out.lt).below hb2 (by omega)
  have HTr := Lib.hid hTr
  have HS2 := Lib.hid hs2
  have HV2 := Lib.hid hv2
  have HBx := Lib.hid hbx
  have HB2 := Lib.hid hb02
  have hz2 : w2.heap.size = w1.heap.size + 1 := by rw [← HW2.out]; simp
  have hgx : ∀ q : Nat, w2.cell? ⟨w1.heap.size, q, none⟩ = (#[.slice a n c, .slice b k d, .slice a' n' c', .slice b' k' d', .slice oa k oc, .slice (some ⟨R, 0, none⟩) k' k'] : Array Value)[q]? := fun q => hbx.cell q
  have g0 := hgx 0
  have g1 := hgx 1
  have g2 := hgx 2
  have g3 := hgx 3
  have g4 := hgx 4
  have g5 := hgx 5
  simp only [List.getElem?_toArray, List.getElem?_cons_succ, List.getElem?_cons_zero] at g0 g1 g2 g3 g4 g5
  have HNP := Lib.hid (noPairs_any (w := w2) (a := a) (n := n) (c := c) (b := b) (d := d) (a' := a') (n' := n') (c' := c') (b' := b') (d' := d') (oa := oa) (oc := oc) (R := R) (k := k) (k' := k') (by omega) (by omega))
  have HBx : Hid (Whole w2 G 134 #[.slice a n c, .slice b k d, .slice a' n' c', .slice b' k' d', .slice oa k oc, .slice (some ⟨R, 0, none⟩) k' k']) := Lib.hid (by rw [← HG.out]; exact HBx.out)
  clear hoff hoff' hacc hb1 hbx hb2 hb02 hlo hTr hs2 hv2 hq hgx hlen1
  go_wp2_with fail
  rw [HW2.out, HG.out]
  refine HNP.out.mono ?_
  rintro e w3 ⟨g, bl, rfl, hrel, hb3⟩
  have hG2 : w.heap.size + 2 < G := by rw [← HG.out]; omega
  have hSt3 : StAt w w3 G g bl a n c b k d m a' n' c' b' k' d' s oa oc R (.slice none 0 0) [] (noF k k') :=
    ⟨HS2.out.below hb3 HS2.out.lt, HV2.out.below hb3 HV2.out.lt, HBx.out.below hb3 HBx.out.lt, HTr.out.below hb3, ⟨hrel.shp, hrel.len, hrel.nod, own_low hrel.outer HB2.out.size, fun x hx => own_low (hrel.rows x hx) HB2.out.size⟩, World.ownsRow_nil _ _ _ _, hG2, HB2.out.trans (hb3.mono HB2.out.size)⟩
  have HSt3 := Lib.hid hSt3
  have HAd := add_any hSt3.rel (x := 0) (y := 0) (by omega) (by omega) (by omega) (by omega)
  rw [noF_get] at HAd
  have HAd := Lib.hid HAd
  clear hrel hb3 hSt3 g0 g1 g2 g3 g4 g5
  go_wp2_with fail
  refine HAd.out.mono ?_
  rintro e w4 ⟨rfl, hrel4, hg4⟩
  have hSt4 := HSt3.out.mark HA.out HA'.out (x := 0) (by omega) hrel4 hg4
  have hlit := World.ownsRow_lit (base := w.heap.size) (e := 143) (size := 4) w4 #[.int .i64 0, .int .i64 0, .int .i64 0, .int .i64 0] 1 hSt4.below.size (by unfold maxLen; omega) rfl
  have hSt5 := hSt4.up ((Below.refl _ w4).alloc (Nat.le_refl _) (.cells #[.int .i64 0, .int .i64 0, .int .i64 0, .int .i64 0] 143))
  have HSt5 : Hid (StAt w (w4.alloc (.cells #[.int .i64 0, .int .i64 0, .int .i64 0, .int .i64 0] 143)) G g bl a n c b k d m a' n' c' b' k' d' s oa oc R (.slice (some ⟨w4.heap.size, 0, none⟩) 1 1) (stQ m s 0).1 (stQ m s 0).2) := Lib.hid (by
    refine ⟨hSt5.sysb, hSt5.ver, hSt5.tri, hSt5.tr, ?_, ?_, hSt5.low, hSt5.below⟩
    · show RelAt _ _ _ _ _ _ (setF (noF m.states.length s.states.length) 0 0)
      rw [← HKm.out, ← HKs.out]
      exact hSt5.rel
    · exact hlit)
  have HOk0 : Hid (OkQ m s (stQ m s 0)) := Lib.hid (OkQ.zero (by have := HKm.out; omega) (by have := HKs.out; omega))
  clear hrel4 hg4 hSt4 hlit hSt5
  go_wp2
  go_loopw [9, 10, 11, 13, 14, 60] (fun qv iv _ _ _ _ wr => ∃ i : Nat, iv = .int .i64 i ∧ i ≤ (stQ m s i).1.length ∧ Hid (FitsTo m s i) ∧ Hid (OkQ m s (stQ m s i)) ∧ Hid (StAt w wr G g bl a n c b k d m a' n' c' b' k' d' s oa oc R qv (stQ m s i).1 (stQ m s i).2)) (fun _ iv _ _ _ _ _ => k * k' + 1 - (intOf iv).toNat)
  case atStart => exact ⟨0, rfl, Nat.zero_le _, Lib.hid (fun q hq => by omega), HOk0, HSt5⟩
  case round =>
    obtain ⟨i, rfl, hi, hfit, hok, hst⟩ := hrel
    obtain ⟨V, hV⟩ : ∃ z, z = wr := ⟨_, rfl⟩
    subst hV
    obtain ⟨Q, HQ⟩ : ∃ Q, Hid ((stQ m s i).1 = Q) := ⟨_, Lib.hid rfl⟩
    obtain ⟨F, HF⟩ : ∃ F, Hid ((stQ m s i).2 = F) := ⟨_, Lib.hid rfl⟩
    rw [HQ.out] at hi hst
    rw [HF.out] at hst
    have HOk : Hid (OkQ m s (Q, F)) := Lib.hid (by rw [← HQ.out, ← HF.out]; exact hok.out)
    have hcnt : Q.length ≤ k * k' := by have := HOk.out.few; rw [← HKm.out, ← HKs.out] at this; exact this
    have HFit := hfit
    have HSt := hst
    have hbv := hst.out.below
    have HBv := Lib.hid hbv
    have hzv := hbv.size
    obtain ⟨qa, qc, rfl⟩ := own_slice' hst.out.que
    obtain ⟨N, HN⟩ : ∃ N, Hid (Q.length = N) := ⟨_, Lib.hid rfl⟩
    have hque := hst.out.que
    rw [HN.out] at hque hi hcnt
    rw [HN.out] at HSt ⊢
    clear hok hfit hst hbv
    by_cases hlt : i < N
    · rcases hque.2 with ⟨hq, h0⟩ | ⟨gq, cap, cur, hq, _⟩
      · omega
      simp only [Value.slice.injEq, true_and] at hq
      obtain ⟨rfl, rfl⟩ := hq
      have hrx := HOk.out.rng i (by have := HN.out; simp only; omega)
      simp only at hrx
      obtain ⟨x, HX⟩ : ∃ x, Hid ((wtAt Q i).x = x) := ⟨_, Lib.hid rfl⟩
      obtain ⟨y, HY⟩ : ∃ y, Hid ((wtAt Q i).y = y) := ⟨_, Lib.hid rfl⟩
      rw [HX.out, HY.out] at hrx
      have hxk : x < k := by have := HKm.out; omega
      have hyk : y < k' := by have := HKs.out; omega
      have hxm := hrx.1
      have hys := hrx.2
      obtain ⟨_, _, e2', e3'⟩ := qcells_at Q i (by have := HN.out; omega)
      have c2 := hque.cellAt (i * 4 + 2) (by omega)
      have c3 := hque.cellAt (i * 4 + 2 + 1) (by omega)
      rw [e2', HX.out] at c2
      rw [show i * 4 + 2 + 1 = i * 4 + 3 by omega, e3', HY.out] at c3
      rw [show i * 4 + 3 = i * 4 + 2 + 1 by omega] at c3
      have i0 : (0 : Int) ≤ (i : Int) := by omega
      have i1 : (i : Int) < (N : Int) := by omega
      -- the box of the pair
      have hbb := (Below.refl V.heap.size V).alloc (Nat.le_refl _) (.cells #[.int .i64 x, .int .i64 y] 130)
      have hbW := Whole.new V 130 #[.int .i64 x, .int .i64 y]
      obtain ⟨Vb, HVb⟩ : ∃ z, Hid (V.alloc (.cells #[.int .i64 x, .int .i64 y] 130) = z) := ⟨_, Lib.hid rfl⟩
      rw [HVb.out] at hbb hbW
      have hzb : Vb.heap.size = V.heap.size + 1 := by rw [← HVb.out]; simp
      have hStb := HSt.out.up hbb
      have HStb := Lib.hid hStb
      have HbW := Lib.hid hbW
      have gx : ∀ q : Nat, (V.alloc (.cells #[.int .i64 x, .int .i64 y] 130)).cell? ⟨G, q, none⟩ = (#[.slice a n c, .slice b k d, .slice a' n' c', .slice b' k' d', .slice oa k oc, .slice (some ⟨R, 0, none⟩) k' k'] : Array Value)[q]? := fun q => by rw [HVb.out]; exact hStb.tri.cell q
      have g0 := gx 0
      have g1 := gx 1
      have g2 := gx 2
      have g3 := gx 3
      have g4 := gx 4
      have g5 := gx 5
      have kb0 := hbW.cell 0
      have kb1 := hbW.cell 1
      simp only [List.getElem?_toArray, List.getElem?_cons_succ, List.getElem?_cons_zero] at g0 g1 g2 g3 g4 g5 kb0 kb1
      have HFt := fits_any hStb.tr HM.out hxk hyk (by omega) (by omega)
      have HBb := Lib.hid hbb
      have hnow : V.heap.size < Vb.heap.size := by omega
      have hGl : G < Vb.heap.size := hStb.tri.lt
      clear hrx e2' e3' hque hbb hbW hStb gx
      cases hft : fitB m s x y
      · rw [hft] at HFt
        have HFt := Lib.hid HFt
        have HNo : Hid (SatNo m s (spellQ Q i i) x) := Lib.hid ⟨i, HFit.out, by rw [HQ.out, HN.out]; exact hlt, by rw [HQ.out, HX.out, HY.out]; exact hft, by rw [HQ.out], by rw [HQ.out, HX.out]⟩
        clear hft
        go_wp2_with fail
        rw [HVb.out]
        refine HFt.out.mono ?_
        rintro e w5 ⟨rfl, hb5⟩
        have hSt5 := HStb.out.up hb5
        have HSt5 := Lib.hid hSt5
        have k5 := (HbW.out.below hb5 hnow).cell 0
        simp only [List.getElem?_toArray, List.getElem?_cons_zero] at k5
        have hq5 := hSt5.que
        rw [HN.out] at hq5
        have hbef : Bef Q := fun q hq h0 => HOk.out.bef q hq h0
        have HQ5 := Lib.hid hq5
        have HBef := Lib.hid hbef
        have HLe : Hid (N ≤ 3000000) := Lib.hid (by omega)
        have hz5 := hb5.size
        clear hb5 hSt5 hq5 hbef g0 g1 g2 g3 g4 g5 kb0 kb1
        have hver5 := HSt5.out.ver
        have HVer5 := Lib.hid hver5
        obtain ⟨wd, HWd⟩ : ∃ z, Hid (spellQ Q i i = z) := ⟨_, Lib.hid rfl⟩
        rw [HWd.out] at HNo
        clear hver5
        have hvl : w.heap.size + 2 < V.heap.size := HSt.out.ver.lt
        go_wp2
        have hfar : ∀ (W : World) (q : Nat) (u : Value), (W.setCell ⟨w.heap.size + 2, q, none⟩ u).cell? ⟨V.heap.size, 0, none⟩ = W.cell? ⟨V.heap.size, 0, none⟩ := fun W q u => World.cell?_setCell_far W _ _ u (by simp only; omega)
        go_region_held3 (fun w' => w'.cell? ⟨V.heap.size, 0, none⟩ = some (.int .i64 x))
          ((first | exact k5 | exact k6 | (simp only [hfar]; exact k6)))
          (first
            | (go_at_call 78; refine (spell_any (own_up' HQ5.out ?_) HN.out HBef.out hlt HLe.out).mono ?_; (first | exact (Below.refl _ w5).drew | exact Below.refl _ w5); rintro e w6 ⟨v6, rfl, hv6, hb6⟩; rw [HWd.out] at hv6; obtain ⟨va, vc, rfl⟩ := own_slice' hv6; have k6 := up_cell hb6 k5; have hb56 : Below w5.heap.size w5 w6 := (by first | exact below_two (Below.refl _ w5).drew hb6 | exact hb6); have hv6w := HVer5.out.below hb56 HVer5.out.lt; have m0 := hv6w.cell 0; have m1 := hv6w.cell 1; have m2 := hv6w.cell 2; have m3 := hv6w.cell 3; have fz0 := hv6w.frozen 0; have fz1 := hv6w.frozen 1; have fz2 := hv6w.frozen 2; have fz3 := hv6w.frozen 3; simp only [List.getElem?_toArray, List.getElem?_cons_succ, List.getElem?_cons_zero] at m0 m1 m2 m3))
        have l0 := ((((hv6w.set 0 (.bool false)).set 1 (.slice none 0 0)).set 2 (.slice va wd.length vc)).set 3 (.int .i64 (x : Nat))).cell 0
        have l1 := ((((hv6w.set 0 (.bool false)).set 1 (.slice none 0 0)).set 2 (.slice va wd.length vc)).set 3 (.int .i64 (x : Nat))).cell 1
        have l2 := ((((hv6w.set 0 (.bool false)).set 1 (.slice none 0 0)).set 2 (.slice va wd.length vc)).set 3 (.int .i64 (x : Nat))).cell 2
        have l3 := ((((hv6w.set 0 (.bool false)).set 1 (.slice none 0 0)).set 2 (.slice va wd.length vc)).set 3 (.int .i64 (x : Nat))).cell 3
        simp only [List.setIfInBounds_toArray, List.set_cons_zero, List.set_cons_succ, List.getElem?_toArray, List.getElem?_cons_succ, List.getElem?_cons_zero] at l0 l1 l2 l3
        have hgr := ((((grown_self w6 ⟨w.heap.size + 2, 0, none⟩ (.bool false)).trans (grown_self (w6.setCell ⟨w.heap.size + 2, 0, none⟩ (.bool false)) ⟨w.heap.size + 2, 1, none⟩ (.slice none 0 0))).trans (grown_self ((w6.setCell ⟨w.heap.size + 2, 0, none⟩ (.bool false)).setCell ⟨w.heap.size + 2, 1, none⟩ (.slice none 0 0)) ⟨w.heap.size + 2, 2, none⟩ (.slice va wd.length vc))).trans (grown_self (((w6.setCell ⟨w.heap.size + 2, 0, none⟩ (.bool false)).setCell ⟨w.heap.size + 2, 1, none⟩ (.slice none 0 0)).setCell ⟨w.heap.size + 2, 2, none⟩ (.slice va wd.length vc)) ⟨w.heap.size + 2, 3, none⟩ (.int .i64 (x : Nat))))
        have hBw6 : Below w.heap.size w w6 := HSt5.out.below.trans (hb56.mono HSt5.out.below.size)
        have hF : NumO ((((w6.setCell ⟨w.heap.size + 2, 0, none⟩ (.bool false)).setCell ⟨w.heap.size + 2, 1, none⟩ (.slice none 0 0)).setCell ⟨w.heap.size + 2, 2, none⟩ (.slice va wd.length vc)).setCell ⟨w.heap.size + 2, 3, none⟩ (.int .i64 (x : Nat))) w.heap.size (.slice va wd.length vc) wd := (own_low hv6 (by have := HSt5.out.below.size; simpa using this)).kept hgr (.inr (own_whole (own_low hv6 (Nat.zero_le _)) hv6w (by decide)).symm)
        have hH : Below w.heap.size w ((((w6.setCell ⟨w.heap.size + 2, 0, none⟩ (.bool false)).setCell ⟨w.heap.size + 2, 1, none⟩ (.slice none 0 0)).setCell ⟨w.heap.size + 2, 2, none⟩ (.slice va wd.length vc)).setCell ⟨w.heap.size + 2, 3, none⟩ (.int .i64 (x : Nat))) := hBw6.grown hgr hBw6.size (fun q hq => by simp only [Option.some.injEq] at hq; omega)
        have HFF := Lib.hid hF
        have HHH := Lib.hid hH
        clear hF hH hgr hBw6 hv6w hv6 hb6 hb56 m0 m1 m2 m3 fz0 fz1 fz2 fz3 k5 k6 hfar
        go_wp2
        exact bodyPost_ret (v := .tuple #[.agg #[.bool false, .slice none 0 0, .slice va wd.length vc, .int .i64 (x : Nat)], .int .i64 0]) (by simp [results, Tryz.results27, go_sem, l0, l1, l2, l3]) rfl (by first | exact ⟨HHH.out, .inr ⟨wd, x, _, HNo.out, rfl, HFF.out⟩⟩ | exact ⟨HHH.out.drew, .inr ⟨wd, x, _, HNo.out, rfl, HFF.out⟩⟩)
      · rw [hft] at HFt
        have HFt := Lib.hid HFt
        have HNx : Hid (∀ q, q < (stAt m.states x).length → (edAt (stAt m.states x) q).1.toNat < (teAt s.states y).2.length ∧ 0 ≤ (teAt s.states y).2.getD (edAt (stAt m.states x) q).1.toNat 0 ∧ (teAt s.states y).2.getD (edAt (stAt m.states x) q).1.toNat 0 < s.states.length) := Lib.hid fun q hq => fit_next HM.out HS.out hxm hys hft hq
        have HFitN : Hid (FitsTo m s (i + 1)) := Lib.hid fun q hq => by
          by_cases e : q = i
          · rw [e, HQ.out, HN.out, HX.out, HY.out]; exact ⟨hlt, hft⟩
          · exact HFit.out q (by omega)
        clear hft
        go_wp2_with fail
        rw [HVb.out]
        refine HFt.out.mono ?_
        rintro e w5 ⟨rfl, hb5⟩
        have hSt5 := HStb.out.up hb5
        have hNow5 := HbW.out.below hb5 hnow
        have k5 := hNow5.cell 0
        have s1 := hSt5.sysb.cell 1
        simp only [List.getElem?_toArray, List.getElem?_cons_succ, List.getElem?_cons_zero] at k5 s1
        obtain ⟨bx2, off2, rfl, ai, ni, ci, c0, hE⟩ := HA.out.rows x hxm
        have c1 : w5.cell? ⟨bx2, off2 + x, none⟩ = some (.slice ai ni ci) := (hSt5.below.cell (lt_of_cell c0)).trans c0
        have HEd := Lib.hid hE
        have HQF : Hid (stQ m s i = (Q, F)) := Lib.hid (by rw [← HQ.out, ← HF.out])
        clear c0
        have hni : ni = (stAt m.states x).length := hE.len
        have hnib : ni ≤ 140737488355328 := hE.big
        have HSt5 : Hid (StAt w w5 G g bl a n c (some ⟨bx2, off2, none⟩) k d m a' n' c' b' k' d' s oa oc R (.slice (some ⟨gq, 0, none⟩) N qc) (inQ m s i (Q, F) 0).1 (inQ m s i (Q, F) 0).2) := Lib.hid (by rw [inQ_zero]; exact hSt5)
        have HNow5 := Lib.hid hNow5
        have HNI := Lib.hid hni
        have x0 : (0 : Int) ≤ (x : Int) := by omega
        have x1 : (x : Int) < (k : Int) := by omega
        have h05 : V.heap.size < w5.heap.size := hNow5.lt
        have HOk1 : Hid (OkQ m s (inQ m s i (Q, F) 0) ∧ N ≤ (inQ m s i (Q, F) 0).1.length) := Lib.hid (by rw [inQ_zero]; exact ⟨HOk.out, by rw [← HN.out]; exact Nat.le_refl _⟩)
        clear hb5 hSt5 hNow5 hE hni g0 g1 g2 g3 g4 g5 kb0 kb1
        go_wp2
        go_loopw [9, 13, 14, 60] (fun qv _ _ jv wr => ∃ j : Nat, jv = .int .i64 j ∧ j ≤ ni ∧ Hid (OkQ m s (inQ m s i (Q, F) j) ∧ N ≤ (inQ m s i (Q, F) j).1.length) ∧ Hid (StAt w wr G g bl a n c (some ⟨bx2, off2, none⟩) k d m a' n' c' b' k' d' s oa oc R qv (inQ m s i (Q, F) j).1 (inQ m s i (Q, F) j).2) ∧ Hid (Whole wr V.heap.size 130 #[.int .i64 x, .int .i64 y])) (fun _ _ _ jv _ => ni - (intOf jv).toNat)
        case atStart => exact ⟨0, rfl, Nat.zero_le _, HOk1, HSt5, HNow5⟩
        case round =>
          obtain ⟨j, rfl, hj, hokj, hstj, hnowj⟩ := hrel
          obtain ⟨Qj, HQj⟩ : ∃ z, Hid ((inQ m s i (Q, F) j).1 = z) := ⟨_, Lib.hid rfl⟩
          obtain ⟨Fj, HFj⟩ : ∃ z, Hid ((inQ m s i (Q, F) j).2 = z) := ⟨_, Lib.hid rfl⟩
          rw [HQj.out, HFj.out] at hstj
          have hok0 := hokj.out.1
          have hokl := hokj.out.2
          rw [HQj.out] at hokl
          have hfew : Qj.length ≤ k * k' := by have := hok0.few; rw [HQj.out, ← HKm.out, ← HKs.out] at this; exact this
          obtain ⟨qja, qjc, rfl⟩ := own_slice' hstj.out.que
          have hzj := hstj.out.below.size
          by_cases hlt2 : j < ni
          · have hjl : j < (stAt m.states x).length := by have := HNI.out; omega
            obtain ⟨be, oe, rfl, d1, d2⟩ := (HEd.out.cells.below hstj.out.below) j hjl
            obtain ⟨f1, f2, f3, f4⟩ := edge_ok HM.out hxm hjl
            obtain ⟨u, hu⟩ := Int.eq_ofNat_of_zero_le f1
            obtain ⟨z, hz⟩ := Int.eq_ofNat_of_zero_le f3
            obtain ⟨n1, n2, n3⟩ := HNx.out j hjl
            have HU := Lib.hid hu
            have HZ := Lib.hid hz
            rw [hu] at d1 n1 n2 n3
            rw [hz] at d2
            simp only [Int.toNat_natCast] at n1 n2 n3
            obtain ⟨t, ht⟩ := Int.eq_ofNat_of_zero_le n2
            have HTt := Lib.hid ht
            have htk : t < k' := by have := HKs.out; omega
            have hzk : z < k := by have := HKm.out; omega
            have HAdd : Hid (inQ m s i (Q, F) (j + 1) = if getF Fj z t = true then inQ m s i (Q, F) j else (Qj ++ [⟨i, (u : Int), z, t⟩], setF Fj z t)) := Lib.hid (by
              rw [inQ_next _ _ _ _ _ (by simp only; rw [HX.out]; exact hjl)]
              simp only
              rw [HX.out, HY.out]
              unfold addQ nextY
              rw [HU.out, HZ.out, HQj.out, HFj.out]
              simp only [Int.toNat_natCast]
              rw [HTt.out]
              simp only [Int.toNat_natCast])
            have HOkA : Hid (OkQ m s (inQ m s i (Q, F) (j + 1)) ∧ N ≤ (inQ m s i (Q, F) (j + 1)).1.length) := Lib.hid (by
              have e1 := inQ_next m s i (Q, F) j (by simp only; rw [HX.out]; exact hjl)
              simp only at e1
              rw [HX.out, HY.out] at e1
              rw [e1]
              refine ⟨hok0.add (by rw [HQj.out]; omega) (by rw [HZ.out]; simp only [Int.toNat_natCast]; have := HKm.out; omega) ?_, ?_⟩
              · unfold nextY
                rw [HU.out]
                simp only [Int.toNat_natCast]
                rw [HTt.out]
                simp only [Int.toNat_natCast]
                have := HKs.out; omega
              · have := addQ_len s i y (inQ m s i (Q, F) j) (edAt (stAt m.states x) j)
                rw [HQj.out] at this
                omega)
            have HFo := follow_any (hstj.out.up ((Below.refl _ wr).alloc (Nat.le_refl _) (.cells #[.int .i64 u, .int .i64 z] 85))).tr (x := x) (z := z) ⟨_, _, rfl⟩ hyk n1 ht (by omega)
            have gx : ∀ q : Nat, (wr.alloc (.cells #[.int .i64 u, .int .i64 z] 85)).cell? ⟨G, q, none⟩ = (#[.slice a n c, .slice (some ⟨bx2, off2, none⟩) k d, .slice a' n' c', .slice b' k' d', .slice oa k oc, .slice (some ⟨R, 0, none⟩) k' k'] : Array Value)[q]? := fun q => (hstj.out.tri.alloc _).cell q
            have kx : ∀ q : Nat, (wr.alloc (.cells #[.int .i64 u, .int .i64 z] 85)).cell? ⟨V.heap.size, q, none⟩ = (#[.int .i64 x, .int .i64 y] : Array Value)[q]? := fun q => (hnowj.out.alloc _).cell q
            have g0 := gx 0
            have g1 := gx 1
            have g2 := gx 2
            have g3 := gx 3
            have g4 := gx 4
            have g5 := gx 5
            have k0 := kx 0
            have k1 := kx 1
            simp only [List.getElem?_toArray, List.getElem?_cons_succ, List.getElem?_cons_zero] at g0 g1 g2 g3 g4 g5 k0 k1
            have HFo := Lib.hid HFo
            have heb := Whole.new wr 85 #[.int .i64 u, .int .i64 z]
            have hbe := (Below.refl wr.heap.size wr).alloc (Nat.le_refl _) (.cells #[.int .i64 u, .int .i64 z] 85)
            obtain ⟨We, HWe⟩ : ∃ z', Hid (wr.alloc (.cells #[.int .i64 u, .int .i64 z] 85) = z') := ⟨_, Lib.hid rfl⟩
            have HeB : Hid (Whole We wr.heap.size 85 #[.int .i64 u, .int .i64 z]) := Lib.hid (by rw [← HWe.out]; exact heb)
            have HbE : Hid (Below wr.heap.size wr We) := Lib.hid (by rw [← HWe.out]; exact hbe)
            have hze : We.heap.size = wr.heap.size + 1 := by rw [← HWe.out]; simp
            have j0 : (0 : Int) ≤ (j : Int) := by omega
            have j1 : (j : Int) < (ni : Int) := by omega
            clear gx kx f1 f2 f3 f4 hu hz n1 n2 n3 ht heb hbe
            go_wp2_with fail
            rw [HWe.out]
            refine (HWe.out ▸ HFo.out).mono ?_
            rintro e w6 ⟨rfl, hb6⟩
            have h66 : We.heap.size ≤ w6.heap.size := hb6.size
            have hb06 : Below wr.heap.size wr w6 := HbE.out.trans (hb6.mono HbE.out.size)
            have heb6 := HeB.out.below hb6 (by omega)
            have hb7 : Below wr.heap.size wr (w6.alloc (.cells #[.int .i64 z, .int .i64 t] 130)) := hb06.alloc hb06.size _
            have hst7 := hstj.out.up hb7
            have hnx7 := Whole.new w6 130 #[.int .i64 z, .int .i64 t]
            obtain ⟨w7, HW7⟩ : ∃ z', Hid (w6.alloc (.cells #[.int .i64 z, .int .i64 t] 130) = z') := ⟨_, Lib.hid rfl⟩
            rw [HW7.out] at hst7 hnx7 hb7
            have heb7 : Whole w7 wr.heap.size 85 #[.int .i64 u, .int .i64 z] := by rw [← HW7.out]; exact heb6.alloc _
            have hnow7 := hnowj.out.below hb7 hnowj.out.lt
            have hz7 : w7.heap.size = w6.heap.size + 1 := by rw [← HW7.out]; simp
            obtain ⟨q, HQq⟩ : ∃ q, Hid (getF Fj z t = q) := ⟨_, Lib.hid rfl⟩
            have hAd := add_any hst7.rel hzk htk (by omega) (by omega)
            rw [HQq.out] at hAd
            have HAd7 := Lib.hid hAd
            have HSt7 := Lib.hid hst7
            have HEb7 := Lib.hid heb7
            have HNx7 := Lib.hid hnx7
            have HNow7 := Lib.hid hnow7
            clear hb6 hb06 heb6 hb7 hst7 hnx7 heb7 hnow7 hAd g0 g1 g2 g3 g4 g5 k0 k1
            go_wp2_with fail
            rw [HW7.out]
            refine HAd7.out.mono ?_
            rintro e w8 ⟨rfl, hrel8, hg8⟩
            have hrow7 := HSt7.out.rel.rows z hzk
            have hst8 := HSt7.out.mark HA.out HA'.out hzk hrel8 hg8
            have heb8 := HEb7.out.grown hg8 (own_whole hrow7 HEb7.out (by decide))
            have hnx8 := HNx7.out.grown hg8 (own_whole hrow7 HNx7.out (by decide))
            have hnow8 := HNow7.out.grown hg8 (own_whole hrow7 HNow7.out (by decide))
            have HSt8 := Lib.hid hst8
            have HNow8 := Lib.hid hnow8
            have p0 := heb8.cell 0
            have p1 := hnx8.cell 0
            have p2 := hnx8.cell 1
            simp only [List.getElem?_toArray, List.getElem?_cons_succ, List.getElem?_cons_zero] at p0 p1 p2
            have hx8 := heb8.lt
            have hx9 := hnx8.lt
            clear hrel8 hg8 hrow7 hst8 heb8 hnx8 hnow8
            cases q
            · have hque8 := HSt8.out.que
              have HQu := Lib.hid (hque8.alloc (.cells #[.int .i64 i, .int .i64 u, .int .i64 z, .int .i64 t] 143))
              have hz8 := HSt8.out.below.size
              go_wp2_with (at_builtin; (refine wpList_append_sz rfl (.tmp 71) (.tmp 78) 144 rfl w.heap.size 143 i4 (.agg #[.int .i64 0, .int .i64 0, .int .i64 0, .int .i64 0]) 4 32 Tryz.underlying144 hi4 hz40 hz41 hz42 rfl (by decide) (.slice qja Qj.length qjc) rfl Qj.length (qcells Qj) HQu.out (some ⟨w8.heap.size, 0, none⟩) 1 1 rfl [.int .i64 i, .int .i64 u, .int .i64 z, .int .i64 t] (fun h => by cases h) rfl (four_src _ _ _ _ _ _) (by simp [Value.oneCell']) (by unfold maxLen; omega) (by omega) (by simp; omega) ?_); intro v9 w9 hv9 hg9 hat9; refine Hid.out ?_)
              refine Lib.hid ?_
              obtain ⟨v9a, v9c, rfl⟩ := own_slice' hv9
              have HSt9 : Hid (StAt w w9 G g bl a n c (some ⟨bx2, off2, none⟩) k d m a' n' c' b' k' d' s oa oc R (.slice v9a (Qj.length + 1) v9c) (inQ m s i (Q, F) (j + 1)).1 (inQ m s i (Q, F) (j + 1)).2) := Lib.hid (by
                rw [HAdd.out, HQq.out, if_neg (by decide)]
                exact HSt8.out.push HA.out HA'.out (t := ⟨i, (u : Int), z, t⟩) hv9 hg9)
              have HNow9 := Lib.hid ((HNow8.out.alloc (.cells #[.int .i64 i, .int .i64 u, .int .i64 z, .int .i64 t] 143)).grown hg9 (own_whole hque8 HNow8.out (by decide)))
              clear hv9 hg9 hat9 hque8
              go_wp2
              go_roundw
              case rel => exact ⟨j + 1, by go_num, by omega, HOkA, HSt9, HNow9⟩
              case measure => simp [intOf]; omega
            · have HStn : Hid (StAt w w8 G g bl a n c (some ⟨bx2, off2, none⟩) k d m a' n' c' b' k' d' s oa oc R (.slice qja Qj.length qjc) (inQ m s i (Q, F) (j + 1)).1 (inQ m s i (Q, F) (j + 1)).2) := Lib.hid (by
                rw [HAdd.out, if_pos HQq.out, HQj.out, HFj.out]
                have h1 := HSt8.out
                rw [setF_same (HSt7.out.rel.shp) hzk htk HQq.out] at h1
                exact h1)
              go_wp2
              go_roundw
              case rel => exact ⟨j + 1, by go_num, by omega, HOkA, HStn, HNow8⟩
              case measure => simp [intOf]; omega
          · have HEq : Hid (stQ m s (i + 1) = inQ m s i (Q, F) j) := Lib.hid (by
              show inQ m s i (stQ m s i) (stAt m.states (wtAt (stQ m s i).1 i).x).length = _
              rw [HQF.out]
              simp only
              rw [HX.out]
              have : j = (stAt m.states x).length := by have := HNI.out; omega
              rw [this])
            have HStE : Hid (StAt w wr G g bl a n c (some ⟨bx2, off2, none⟩) k d m a' n' c' b' k' d' s oa oc R (.slice qja Qj.length qjc) (stQ m s (i + 1)).1 (stQ m s (i + 1)).2) := Lib.hid (by rw [HEq.out, HQj.out, HFj.out]; exact hstj.out)
            have HOkE : Hid (OkQ m s (stQ m s (i + 1))) := Lib.hid (by rw [HEq.out]; exact hok0)
            have HLe : Hid (i + 1 ≤ (stQ m s (i + 1)).1.length) := Lib.hid (by rw [HEq.out, HQj.out]; omega)
            clear hok0 hokl
            go_wp2
            go_roundw
            case rel => exact ⟨i + 1, by go_num, HLe.out, HFitN, HOkE, HStE⟩
            case measure => simp [intOf]; omega
    · have hiN : i = N := by omega
      have HYes : Hid (SatYes m s (allF F)) := Lib.hid ⟨i, HFit.out, by rw [HQ.out, HN.out, hiN], by rw [HF.out]⟩
      have HAll := all_any g k V
      have hbA := (Below.refl V.heap.size V).alloc (Nat.le_refl _) (.cells #[.slice (some ⟨g, 0, none⟩) k k] 137)
      have hStA := HSt.out.up hbA
      have hcA : (V.alloc (.cells #[.slice (some ⟨g, 0, none⟩) k k] 137)).cell? ⟨V.heap.size, 0, none⟩ = some (.slice (some ⟨g, 0, none⟩) k k) := (Whole.new V 137 #[.slice (some ⟨g, 0, none⟩) k k]).cell 0
      have HCol := Lib.hid (collectAll_any hcA hStA.rel (by omega) (by omega) (by omega))
      have HAll := Lib.hid HAll
      have HStA := Lib.hid hStA
      clear hbA hStA hcA hque
      go_wp2_with fail
      refine HAll.out.mono ?_
      rintro e w5 ⟨rfl, hw5⟩
      have HW5 := Lib.hid hw5
      rw [hw5] at HCol HStA
      clear hw5
      go_wp2_with fail
      refine HCol.out.mono ?_
      rintro e w6 ⟨v6, rfl, hv6, hb6⟩
      obtain ⟨va, vc, rfl⟩ := own_slice' hv6
      have hst6 := HStA.out.up hb6
      have hv6w := hst6.ver
      have m0 := hv6w.cell 0
      have m1 := hv6w.cell 1
      have m2 := hv6w.cell 2
      have m3 := hv6w.cell 3
      have fz0 := hv6w.frozen 0
      have fz1 := hv6w.frozen 1
      have fz2 := hv6w.frozen 2
      have fz3 := hv6w.frozen 3
      obtain ⟨LN, HLN⟩ : ∃ z, Hid ((allF F).length = z) := ⟨_, Lib.hid rfl⟩
      rw [HLN.out] at hv6 ⊢
      have l0 := ((((hv6w.set 0 (.bool true)).set 1 (.slice va LN vc)).set 2 (.slice none 0 0)).set 3 (.int .i64 0)).cell 0
      have l1 := ((((hv6w.set 0 (.bool true)).set 1 (.slice va LN vc)).set 2 (.slice none 0 0)).set 3 (.int .i64 0)).cell 1
      have l2 := ((((hv6w.set 0 (.bool true)).set 1 (.slice va LN vc)).set 2 (.slice none 0 0)).set 3 (.int .i64 0)).cell 2
      have l3 := ((((hv6w.set 0 (.bool true)).set 1 (.slice va LN vc)).set 2 (.slice none 0 0)).set 3 (.int .i64 0)).cell 3
      simp only [List.setIfInBounds_toArray, List.set_cons_zero, List.set_cons_succ, List.getElem?_toArray, List.getElem?_cons_succ, List.getElem?_cons_zero] at m0 m1 m2 m3 l0 l1 l2 l3
      have hgr := (((grown_self w6 ⟨w.heap.size + 2, 0, none⟩ (.bool true)).trans (grown_self (w6.setCell ⟨w.heap.size + 2, 0, none⟩ (.bool true)) ⟨w.heap.size + 2, 1, none⟩ (.slice va LN vc))).trans (grown_self ((w6.setCell ⟨w.heap.size + 2, 0, none⟩ (.bool true)).setCell ⟨w.heap.size + 2, 1, none⟩ (.slice va LN vc)) ⟨w.heap.size + 2, 2, none⟩ (.slice none 0 0))).trans (grown_self (((w6.setCell ⟨w.heap.size + 2, 0, none⟩ (.bool true)).setCell ⟨w.heap.size + 2, 1, none⟩ (.slice va LN vc)).setCell ⟨w.heap.size + 2, 2, none⟩ (.slice none 0 0)) ⟨w.heap.size + 2, 3, none⟩ (.int .i64 0))
      have hF := (own_low hv6 HStA.out.below.size).kept hgr (.inr (own_whole hv6 hv6w (by decide)).symm)
      have hH := hst6.below.grown hgr hst6.below.size (fun q hq => by simp only [Option.some.injEq] at hq; omega)
      have HFF := Lib.hid hF
      have HHH := Lib.hid hH
      have hvl := hv6w.lt
      clear hF hH hgr hv6w hv6 hb6 hst6
      go_wp2
      exact bodyPost_ret (v := .tuple #[.agg #[.bool true, .slice va LN vc, .slice none 0 0, .int .i64 0], .int .i64 0]) (by simp [results, Tryz.results27, go_sem, l0, l1, l2, l3]) rfl ⟨HHH.out, .inl ⟨allF F, _, HYes.out, rfl, by rw [HLN.out]; exact HFF.out⟩⟩
end Go.Proofs.YtpmbijlldoiplaaGreatDoor
