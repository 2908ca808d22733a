/- Texts joined: Cpv, Rx, SimPl, RSim, Simple. -/
import Derived.Test.YtbncofgbpffmkaaGreatDoorJc35
import Derived.Test.YtbncofgbpffmkaaGreatDoorJc32
import Derived.Deep.RegionHeld3
import Derived.Test.YtbncofgbpffmkaaGreatDoorJc31
import Derived.Test.YtbncofgbpffmkaaGreatDoorJc06
import Derived.Laws.OwnMore
import Derived.Test.YtbncofgbpffmkaaGreatDoorJc01
import Derived.Test.YtbncofgbpffmkaaGreatDoorJc10
import Derived.Test.YtbncofgbpffmkaaGreatDoorJc08
import Derived.Test.YtbncofgbpffmkaaGreatDoorJc03
import Derived.Deep.RegionLaw
import Derived.Test.YtbncofgbpffmkaaGreatDoorJc27
import Derived.Test.YtbncofgbpffmkaaGreatDoorJc28
import Derived.Test.YtbncofgbpffmkaaGreatDoorJc18
/- law03's copied: the same verdict in new memory. -/
namespace Go.Proofs.YtbncofgbpffmkaaGreatDoor
open Go.RowKit Pl

theorem own_pairs {w : World} {base : Nat} {e : TypeId} {a : Option Addr} {n c : Nat} {L : List Edg} (h : w.ownsRow base e 2 (.slice a n c) L.length (ecells L)) (hbig : L.length ≤ 140737488355328) : n = L.length ∧ EdgeArg w a n c L := by
  rcases h.2 with ⟨e1, e0⟩ | ⟨g, cap, cur, e1, hg, hh, hc, hm, hz, ht⟩
  · simp only [Value.slice.injEq] at e1
    obtain ⟨rfl, rfl, rfl⟩ := e1
    exact ⟨e0.symm, fun _ => rfl, e0.symm, by omega, by omega, fun j hj => by omega⟩
  · simp only [Value.slice.injEq] at e1
    obtain ⟨rfl, rfl, rfl⟩ := e1
    refine ⟨rfl, (fun h => by cases h), rfl, hc, hbig, fun j hj => ⟨g, 0, rfl, ?_, ?_⟩⟩
    · rw [Nat.zero_add, h.cellAt (j * 2) (by omega)]
      exact (ecells_at L j hj).1
    · rw [Nat.zero_add, h.cellAt (j * 2 + 1) (by omega)]
      exact (ecells_at L j hj).2
theorem whole_arr {W : World} {g : Nat} {t : TypeId} {x0 x1 x2 x3 : Value} (h : Whole W g t #[x0, x1, x2, x3]) :
    W.cell? ⟨g, 0, none⟩ = some x0 ∧ W.cell? ⟨g, 1, none⟩ = some x1 ∧ W.cell? ⟨g, 2, none⟩ = some x2 ∧ W.cell? ⟨g, 3, none⟩ = some x3 :=
  ⟨h.cell 0, h.cell 1, h.cell 2, h.cell 3⟩
theorem whole_frz {W : World} {g : Nat} {t : TypeId} {cs : Array Value} (h : Whole W g t cs) :
    W.frozen? ⟨g, 0, none⟩ = false ∧ W.frozen? ⟨g, 1, none⟩ = false ∧ W.frozen? ⟨g, 2, none⟩ = false ∧ W.frozen? ⟨g, 3, none⟩ = false :=
  ⟨h.frozen 0, h.frozen 1, h.frozen 2, h.frozen 3⟩

theorem own_put4 {W : World} {base g : Nat} {e t : TypeId} {size n : Nat} {v : Value} {xs : List Value} {cs : Array Value} (h : W.ownsRow base e size v n xs) (hw : Whole W g t cs) (hne : e ≠ t) (a b c d : Value) :
    ((((W.setCell ⟨g, 0, none⟩ a).setCell ⟨g, 1, none⟩ b).setCell ⟨g, 2, none⟩ c).setCell ⟨g, 3, none⟩ d).ownsRow base e size v n xs :=
  own_stored (own_stored (own_stored (own_stored h hw hne) (hw.set 0 a) hne) ((hw.set 0 a).set 1 b) hne) (((hw.set 0 a).set 1 b).set 2 c) hne
set_option maxRecDepth 100000 in
set_option maxHeartbeats 8000000 in
theorem copied_any {w : World} (h : Bool) {pa : Option Addr} {pn pc : Nat} {L : List Edg} (P : EdgeArg w pa pn pc L) {wa : Option Addr} {wn wc : Nat} {word : List Int} (Wd : IntArg w wa wn wc word) (st : Int) (hp : pn ≤ 10000000) (hw : wn ≤ 10000000) :
    Calls Tryz.prog 11 #[.agg #[.bool h, .slice pa pn pc, .slice wa wn wc, .int .i64 st]] w fun e w' => ∃ pa' pc' wa' wc', e = .returned (.agg #[.bool h, .slice pa' pn pc', .slice wa' wn wc', .int .i64 st]) ∧ EdgeArg w' pa' pn pc' L ∧ IntArg w' wa' wn wc' word ∧ Below w.heap.size w w' := by
  obtain ⟨i1, hi1, hz10, hz11, hz12⟩ := info_parts infoNumS
  obtain ⟨i3, hi3, hz30, hz31, hz32⟩ := info_parts infoPair
  have hB := ((Below.refl w.heap.size w).alloc (Nat.le_refl _) (.cells #[.bool h, .slice pa pn pc, .slice wa wn wc, .int .i64 st] 35)).alloc (by simp) (.cells #[.bool false, .slice none 0 0, .slice none 0 0, .int .i64 0] 35)
  have hX := (Whole.new w 35 #[.bool h, .slice pa pn pc, .slice wa wn wc, .int .i64 st]).alloc (.cells #[.bool false, .slice none 0 0, .slice none 0 0, .int .i64 0] 35)
  have hO := Whole.new (w.alloc (.cells #[.bool h, .slice pa pn pc, .slice wa wn wc, .int .i64 st] 35)) 35 #[.bool false, .slice none 0 0, .slice none 0 0, .int .i64 0]
  simp only [World.size_alloc] at hO
  obtain ⟨w0, HW0⟩ : ∃ z, Hid ((w.alloc (.cells #[.bool h, .slice pa pn pc, .slice wa wn wc, .int .i64 st] 35)).alloc (.cells #[.bool false, .slice none 0 0, .slice none 0 0, .int .i64 0] 35) = z) := ⟨_, Lib.hid rfl⟩
  rw [HW0.out] at hB hX hO
  have NA := Lib.hid (P.below hB)
  have NB := Lib.hid (Wd.below hB)
  have LA : Hid ((ecells L).length = pn * 2) := Lib.hid (by rw [ecells_length, P.len])
  have LB : Hid ((word.map (Value.int .i64)).length = wn * 1) := Lib.hid (by have := Wd.len; simp; omega)
  have LA2 : Hid (L.length = pn) := Lib.hid P.len.symm
  have LB2 : Hid (word.length = wn) := Lib.hid Wd.len.symm
  have NN : Hid (pa = none → pn = 0 ∧ pc = 0) := Lib.hid (fun e => by have := P.nil e; have := P.cap; omega)
  have zO := Lib.hid hO
  have zX := Lib.hid hX
  have HB := Lib.hid hB
  have hS0 : w.heap.size ≤ w0.heap.size := hB.size
  have kD : w0.drew.cell? ⟨w.heap.size, 0, none⟩ = some (.bool h) ∧ w0.drew.cell? ⟨w.heap.size, 1, none⟩ = some (.slice pa pn pc) ∧ w0.drew.cell? ⟨w.heap.size, 2, none⟩ = some (.slice wa wn wc) ∧ w0.drew.cell? ⟨w.heap.size, 3, none⟩ = some (.int .i64 st) := whole_arr hX
  have nO : w.heap.size + 1 ≠ w.heap.size ∧ w.heap.size + 1 ≠ w.heap.size ∧ w.heap.size + 1 ≠ w.heap.size ∧ w.heap.size + 1 ≠ w.heap.size := ⟨by omega, by omega, by omega, by omega⟩
  clear P Wd hB hX hO
  go_enter Tryz.func11, Tryz.ntmps11
  go_wp2
  rw [HW0.out]
  go_region_held3 (fun w' => w'.cell? ⟨w.heap.size, 0, none⟩ = some (.bool h) ∧ w'.cell? ⟨w.heap.size, 1, none⟩ = some (.slice pa pn pc) ∧ w'.cell? ⟨w.heap.size, 2, none⟩ = some (.slice wa wn wc) ∧ w'.cell? ⟨w.heap.size, 3, none⟩ = some (.int .i64 st))
    ((with_reducible (first | assumption | exact ms_far kJ nO _ _ _ _ | exact kD)))
    (first
      | (refine step_append_sz rfl (.const (.slice none 0 0)) (.tmp 6) 32 (by rfl) w.heap.size 69 i3 (.agg #[.int .i64 0, .int .i64 0]) 2 16 Tryz.underlying32 hi3 hz30 hz31 hz32 rfl (by decide) (.slice none 0 0) (by rfl) 0 [] (World.ownsRow_nil _ _ _ _) pa pn pc (by rfl) (ecells L) NN.out LA.out (edges_src (NA.out.below (Below.refl _ w0).drew).cells) (ecells_one _) (by unfold maxLen; omega) (by omega) hS0 ?_; intro v wA hA hg hat; clear hat; simp only [Nat.zero_add, List.nil_append] at hA; obtain ⟨xA, qA, rfl⟩ := own_slice hA; have hGA : Below w0.heap.size w0 wA := (Below.refl _ w0).drew.trans (below_up hg); have kI := ms_up (below_up hg) kD)
      | (refine step_append_sz rfl (.const (.slice none 0 0)) (.tmp 9) 33 (by rfl) w.heap.size 3 i1 (.int .i64 0) 1 8 Tryz.underlying33 hi1 hz10 hz11 hz12 rfl (by decide) (.slice none 0 0) (by rfl) 0 [] (World.ownsRow_nil _ _ _ _) wa wn wc (by rfl) (word.map (Value.int .i64)) NB.out.nils LB.out (numsrc (NB.out.below hGA)) (numone _) (by unfold maxLen; omega) (by omega) (Nat.le_trans hS0 hGA.size) ?_; intro v wB hB hg2 hat; clear hat; simp only [Nat.zero_add, List.nil_append] at hB; obtain ⟨xB, qB, rfl⟩ := own_slice hB; have hGB := hGA.trans ((below_up hg2).mono hGA.size); have hA2 := own_up hA hg2; have kJ := ms_up (below_up hg2) kI; obtain ⟨f0, f1, f2, f3⟩ := whole_frz (zO.out.below hGB zO.out.lt); obtain ⟨m0, m1, m2, m3⟩ := whole_arr (zO.out.below hGB zO.out.lt)))
  all_goals
    have hz := zO.out.below hGB zO.out.lt
    have hVa := (((hz.set 0 (.bool h)).set 1 (.slice xA pn qA)).set 2 (.slice xB wn qB)).set 3 (.int .i64 st)
    have hP4 := own_put4 hA2 hz (by decide) (.bool h) (.slice xA pn qA) (.slice xB wn qB) (.int .i64 st)
    have hW4 := own_put4 hB hz (by decide) (.bool h) (.slice xA pn qA) (.slice xB wn qB) (.int .i64 st)
    have hbw : Below w.heap.size w ((((wB.setCell ⟨w.heap.size + 1, 0, none⟩ (.bool h)).setCell ⟨w.heap.size + 1, 1, none⟩ (.slice xA pn qA)).setCell ⟨w.heap.size + 1, 2, none⟩ (.slice xB wn qB)).setCell ⟨w.heap.size + 1, 3, none⟩ (.int .i64 st)) := ((((HB.out.trans (hGB.mono HB.out.size)).setCell (p := ⟨w.heap.size + 1, 0, none⟩) (by simp) _).setCell (p := ⟨w.heap.size + 1, 1, none⟩) (by simp) _).setCell (p := ⟨w.heap.size + 1, 2, none⟩) (by simp) _).setCell (p := ⟨w.heap.size + 1, 3, none⟩) (by simp) _
    rw [← LA2.out] at hP4
    have hq := (own_pairs (a := xA) (n := L.length) (c := qA) hP4 (by rw [LA2.out]; omega)).2
    have hq2 : IntArg ((((wB.setCell ⟨w.heap.size + 1, 0, none⟩ (.bool h)).setCell ⟨w.heap.size + 1, 1, none⟩ (.slice xA pn qA)).setCell ⟨w.heap.size + 1, 2, none⟩ (.slice xB wn qB)).setCell ⟨w.heap.size + 1, 3, none⟩ (.int .i64 st)) xB wn qB word := by
      rw [← LB2.out] at hW4 ⊢
      exact (own_nums (n := word.length) hW4 (by rw [LB2.out]; omega)).2
    rw [LA2.out] at hq
    have HFin := Lib.hid (And.intro hq (And.intro hq2 hbw))
    obtain ⟨l0, l1, l2, l3⟩ := whole_arr (x0 := .bool h) (x1 := .slice xA pn qA) (x2 := .slice xB wn qB) (x3 := .int .i64 st) hVa
    clear hz hVa hP4 hW4 hbw hq hq2 hA2 hB hA hGA hGB hg hg2 kD kI kJ m0 m1 m2 m3 f0 f1 f2 f3
    go_wp2
    exact bodyPost_ret (v := .agg #[.bool h, .slice xA pn qA, .slice xB wn qB, .int .i64 st]) (by simp [results, Tryz.results11, go_sem, l0, l1, l2, l3]) rfl ⟨xA, qA, xB, qB, rfl, HFin.out.1, HFin.out.2.1, HFin.out.2.2⟩
end Go.Proofs.YtbncofgbpffmkaaGreatDoor
/- A state that a call puts together in a variable of its own: two rows of numbers. -/
namespace Go.Proofs.YtbncofgbpffmkaaGreatDoor
open Go.RowKit Pl

/-- the variable at block XB holds va and vn: the numbers acc and nx, in rows of their own -/
structure RxAt (w wr : World) (XB : Nat) (va vn : Value) (acc nx : List Int) : Prop where
  box : Whole wr XB 52 #[va, vn]
  acc : NumO wr w.heap.size va acc
  nx : NumO wr w.heap.size vn nx
  far : va.ownBlock = none ∨ va.ownBlock ≠ vn.ownBlock
  low : w.heap.size ≤ XB
  below : Below w.heap.size w wr
theorem RxAt.drew {w wr : World} {XB : Nat} {va vn : Value} {acc nx : List Int} (h : RxAt w wr XB va vn acc nx) : RxAt w wr.drew XB va vn acc nx :=
  ⟨h.box, h.acc, h.nx, h.far, h.low, h.below.drew⟩
theorem RxAt.up {w wr wA : World} {XB : Nat} {va vn : Value} {acc nx : List Int} (h : RxAt w wr XB va vn acc nx) (hb : Below wr.heap.size wr wA) : RxAt w wA XB va vn acc nx :=
  ⟨h.box.below hb h.box.lt, h.acc.below hb, h.nx.below hb, h.far, h.low, h.below.trans (hb.mono h.below.size)⟩
/-- an append to the second field -/
theorem RxAt.more {w wA wB : World} {XB : Nat} {va vn v2 : Value} {acc nx nx' : List Int} (h : RxAt w wA XB va vn acc nx) (hg : wA.grownBy wB vn.ownBlock) (hB : NumO wB w.heap.size v2 nx') (hat : v2.ownBlock = vn.ownBlock ∨ v2.ownBlock = some wA.heap.size) :
    RxAt w (wB.setCell ⟨XB, 1, none⟩ v2) XB va v2 acc nx' := by
  have hb := h.box.grown hg (own_whole h.nx h.box (by decide))
  have lo := h.low
  have ha := h.acc.kept hg h.far
  refine ⟨by simpa using hb.set 1 v2, ha.kept (grown_self wB ⟨XB, 1, none⟩ v2) (.inr (own_whole ha hb (by decide)).symm), hB.kept (grown_self wB ⟨XB, 1, none⟩ v2) (.inr (own_whole hB hb (by decide)).symm), ?_, lo, (h.below.grown hg h.below.size (own_ge h.nx)).setCell (by simpa using lo) _⟩
  rcases hat with e | e
  · rw [e]; exact h.far
  · right
    rw [e]
    intro q
    have := (World.ownsRow.lt h.acc _ q).2
    omega
/-- an append to the first field -/
theorem RxAt.push {w wA wB : World} {XB : Nat} {va vn v2 : Value} {acc acc' nx : List Int} (h : RxAt w wA XB va vn acc nx) (hg : wA.grownBy wB va.ownBlock) (hB : NumO wB w.heap.size v2 acc') (hat : v2.ownBlock = va.ownBlock ∨ v2.ownBlock = some wA.heap.size) :
    RxAt w (wB.setCell ⟨XB, 0, none⟩ v2) XB v2 vn acc' nx := by
  have hb := h.box.grown hg (own_whole h.acc h.box (by decide))
  have lo := h.low
  have far1 : vn.ownBlock = none ∨ vn.ownBlock ≠ va.ownBlock := by
    rcases h.far with e | e
    · rw [e]
      cases vn.ownBlock <;> simp
    · exact .inr (fun q => e q.symm)
  have hn := h.nx.kept hg far1
  refine ⟨by simpa using hb.set 0 v2, hB.kept (grown_self wB ⟨XB, 0, none⟩ v2) (.inr (own_whole hB hb (by decide)).symm), hn.kept (grown_self wB ⟨XB, 0, none⟩ v2) (.inr (own_whole hn hb (by decide)).symm), ?_, lo, (h.below.grown hg h.below.size (own_ge h.acc)).setCell (by simpa using lo) _⟩
  rcases hat with e | e
  · rw [e]; exact h.far
  · right
    rw [e]
    intro q
    have := (World.ownsRow.lt h.nx _ q.symm).2
    omega
/-- a store into the second field's row -/
theorem RxAt.put {w wr : World} {XB n cp : Nat} {ga : Option Addr} {va : Value} {acc nx : List Int} (h : RxAt w wr XB va (.slice ga n cp) acc nx) (hn : nx.length = n) (j : Nat) (hj : j < n) (u : Int) :
    ∃ g, ga = some ⟨g, 0, none⟩ ∧ wr.cell? ⟨g, j, none⟩ = some (.int .i64 (nx.getD j 0)) ∧ wr.frozen? ⟨g, j, none⟩ = false ∧ RxAt w (wr.setCell ⟨g, j, none⟩ (.int .i64 u)) XB va (.slice ga n cp) acc (nx.set j u) := by
  have h1 := h.nx
  unfold NumO at h1
  rw [hn] at h1
  rcases h1.2 with ⟨e, e0⟩ | ⟨g, cap, cur, e, _⟩
  · omega
  · simp only [Value.slice.injEq] at e
    obtain ⟨rfl, _, rfl⟩ := e
    have hs := World.ownsRow.stored h1 j (.int .i64 u)
    have e : ((nx.map (Value.int .i64)).set j (.int .i64 u)) = (nx.set j u).map (Value.int .i64) := by rw [List.map_set]
    rw [e] at hs
    have el : (nx.set j u).length = nx.length := List.length_set
    have g1 := own_whole h1 h.box (by decide)
    simp only [Value.ownBlock] at g1
    refine ⟨g, rfl, ?_, h1.frozenAt j, ⟨h.box.grown hs.2 g1, h.acc.kept hs.2 (by simpa [Value.ownBlock] using h.far), ?_, by simpa [Value.ownBlock] using h.far, h.low, h.below.setCell (own_ge h1 g rfl) _⟩⟩
    · rw [h1.cellAt j (by omega), List.getElem?_map, List.getElem?_eq_getElem (by omega), List.getD_eq_getElem?_getD, List.getElem?_eq_getElem (by omega)]
      rfl
    · unfold NumO; rw [el, hn]; exact hs.1
end Go.Proofs.YtbncofgbpffmkaaGreatDoor
/- Plain facts: the specification of a system, and the two with one state; nothing here is about a program. -/
namespace Go.Proofs.YtbncofgbpffmkaaGreatDoor.Pl
open Go Go.Lib

/-- the numbers below k -/
def upTo (k : Nat) : List Int := (List.range k).map fun (j : Nat) => (j : Int)
theorem upTo_next (k : Nat) : upTo (k + 1) = upTo k ++ [(k : Int)] := by simp [upTo, List.range_succ]
theorem upTo_len (k : Nat) : (upTo k).length = k := by simp [upTo]
def allQ (acts : List ByteArray) : Spc := ⟨acts, [(upTo (2 ^ acts.length), List.replicate acts.length 0)]⟩
def noneQ (acts : List ByteArray) : Spc := ⟨acts, [([], List.replicate acts.length (-1))]⟩
/-- the set of the actions of some edges -/
def setE (l : List Edg) : Nat := l.foldl (fun s e => s ||| 2 ^ e.1.toNat) 0
/-- where the first j edges lead; nothing if two of them have the same action -/
def nxE (na : Nat) (l : List Edg) : Nat → Option (List Int)
  | 0 => some (List.replicate na (-1))
  | j + 1 => (nxE na l j).bind fun nx => if nx.getD (edAt l j).1.toNat 0 = -1 then some (nx.set (edAt l j).1.toNat (edAt l j).2) else none
/-- the states of the specification of a system's first i states -/
def ofK (m : Syst) : Nat → Option (List Ste)
  | 0 => some []
  | i + 1 => (ofK m i).bind fun ss => (nxE m.acts.length (stAt m.states i) (stAt m.states i).length).map fun nx => ss ++ [([(setE (stAt m.states i) : Int)], nx)]
def ofQ (m : Syst) : Option Spc := (ofK m m.states.length).map fun ss => ⟨m.acts, ss⟩
theorem nxE_stop {na : Nat} {l : List Edg} {j : Nat} {nx : List Int} (h : nxE na l j = some nx) (hb : nx.getD (edAt l j).1.toNat 0 ≠ -1) : nxE na l (j + 1) = none := by
  unfold nxE
  rw [h, Option.bind_some, if_neg hb]
theorem nxE_go {na : Nat} {l : List Edg} {j : Nat} {nx : List Int} (h : nxE na l j = some nx) (hb : nx.getD (edAt l j).1.toNat 0 = -1) : nxE na l (j + 1) = some (nx.set (edAt l j).1.toNat (edAt l j).2) := by
  unfold nxE
  rw [h, Option.bind_some, if_pos hb]
theorem nxE_none {na : Nat} {l : List Edg} {j : Nat} (h : nxE na l j = none) : ∀ k, nxE na l (j + k) = none
  | 0 => h
  | k + 1 => by
    rw [← Nat.add_assoc]
    unfold nxE
    rw [nxE_none h k]
    rfl
theorem ofK_none {m : Syst} {i : Nat} (h : ofK m i = none) : ∀ k, ofK m (i + k) = none
  | 0 => h
  | k + 1 => by
    rw [← Nat.add_assoc]
    unfold ofK
    rw [ofK_none h k]
    rfl
theorem ofQ_stop {m : Syst} {i j : Nat} {ss : List Ste} (h : ofK m i = some ss) (hi : i < m.states.length) (hj : j ≤ (stAt m.states i).length) (hn : nxE m.acts.length (stAt m.states i) j = none) : ofQ m = none := by
  have h1 : ofK m (i + 1) = none := by
    unfold ofK
    have := nxE_none hn ((stAt m.states i).length - j)
    rw [show j + ((stAt m.states i).length - j) = (stAt m.states i).length by omega] at this
    rw [h, Option.bind_some, this]
    rfl
  have h2 := ofK_none h1 (m.states.length - (i + 1))
  rw [show i + 1 + (m.states.length - (i + 1)) = m.states.length by omega] at h2
  unfold ofQ
  rw [h2]
  rfl
theorem ofK_go {m : Syst} {i : Nat} {ss : List Ste} {nx : List Int} (h : ofK m i = some ss) (hn : nxE m.acts.length (stAt m.states i) (stAt m.states i).length = some nx) : ofK m (i + 1) = some (ss ++ [([(setE (stAt m.states i) : Int)], nx)]) := by
  unfold ofK
  rw [h, Option.bind_some, hn]
  rfl
theorem ofQ_end {m : Syst} {ss : List Ste} (h : ofK m m.states.length = some ss) : ofQ m = some ⟨m.acts, ss⟩ := by
  unfold ofQ
  rw [h]
  rfl
theorem nxE_fit {na ns : Nat} {l : List Edg} (hl : ∀ k, k < l.length → 0 ≤ (edAt l k).2 ∧ (edAt l k).2 < ns) : ∀ j nx, j ≤ l.length → nxE na l j = some nx → nx.length = na ∧ ∀ x ∈ nx, -1 ≤ x ∧ x < (ns : Int) + 1
  | 0, nx, _, h => by
    cases h
    refine ⟨by simp, fun x hx => ?_⟩
    have := List.eq_of_mem_replicate hx
    omega
  | j + 1, nx, hj, h => by
    unfold nxE at h
    cases h1 : nxE na l j with
    | none => rw [h1] at h; cases h
    | some nx0 =>
      rw [h1, Option.bind_some] at h
      obtain ⟨h2, h3⟩ := nxE_fit hl j nx0 (by omega) h1
      split at h
      · cases h
        refine ⟨by rw [List.length_set]; exact h2, fun x hx => ?_⟩
        rcases List.mem_or_eq_of_mem_set hx with hx | hx
        · exact h3 x hx
        · have := hl j (by omega)
          omega
      · cases h
end Go.Proofs.YtbncofgbpffmkaaGreatDoor.Pl
/- The reference's All and Nothing. -/
namespace Go.Proofs.YtbncofgbpffmkaaGreatDoor
open Go.RowKit Pl

/-- a literal row of one state -/
theorem lit_state {W : World} {base : Nat} {p q : Value} {t : Ste} (hP : NumO W base p t.1) (hQ : NumO W base q t.2) (hb : base ≤ W.heap.size) : StesOwn (W.alloc (.cells #[p, q] 52)) base (.slice (some ⟨W.heap.size, 0, none⟩) 1 1) [t] := by
  refine ⟨[(p, q)], rfl, ?_, fun i hi => ?_⟩
  · have h := World.ownsRow_lit (base := base) (e := 52) (size := 2) W #[p, q] 1 hb (by unfold maxLen; omega) rfl
    simpa [rcells] using h
  · obtain rfl : i = 0 := by simpa using hi
    exact ⟨(p, q), rfl, by simpa [teAt] using hP.alloc _, by simpa [teAt] using hQ.alloc _⟩
/-- a specification of the call's own, stored into a variable -/
theorem spc_stored {W : World} {base g : Nat} {va vs x y : Value} {s : Spc} (h : SpcOwn W base va vs s) (hw : Whole W g 28 #[x, y]) (u v : Value) : SpcOwn ((W.setCell ⟨g, 0, none⟩ u).setCell ⟨g, 1, none⟩ v) base va vs s := by
  have hw1 := hw.set 0 u
  have s1 := h.rows.kept (grown_self W ⟨g, 0, none⟩ u) (.inr (own_whole h.rows.choose_spec.2.1 hw (by decide)).symm) (fun r l hr => .inr (own_whole hr hw (by decide)).symm)
  exact ⟨own_stored (own_stored h.acts hw (by decide)) hw1 (by decide), s1.kept (grown_self _ ⟨g, 1, none⟩ v) (.inr (own_whole s1.choose_spec.2.1 hw1 (by decide)).symm) (fun r l hr => .inr (own_whole hr hw1 (by decide)).symm)⟩

/-- what a call leaves that stores a specification with one state into its result: the row of the state made last, or before the list of actions -/
theorem fin_a {w wA : World} {R : Nat} {va p q x y : Value} {acts : List ByteArray} {t : Ste} (hA : wA.ownsRow w.heap.size 9 1 va acts.length (acts.map Value.string)) (hP : NumO wA w.heap.size p t.1) (hQ : NumO wA w.heap.size q t.2) (hres : Whole wA R 28 #[x, y]) (hR : w.heap.size ≤ R) (hb : Below w.heap.size w wA) :
    Whole (((wA.setCell ⟨R, 0, none⟩ va).setCell ⟨R, 1, none⟩ (.slice (some ⟨wA.heap.size, 0, none⟩) 1 1)).alloc (.cells #[p, q] 52)) R 28 #[va, .slice (some ⟨wA.heap.size, 0, none⟩) 1 1] ∧
    SpcOwn (((wA.setCell ⟨R, 0, none⟩ va).setCell ⟨R, 1, none⟩ (.slice (some ⟨wA.heap.size, 0, none⟩) 1 1)).alloc (.cells #[p, q] 52)) w.heap.size va (.slice (some ⟨wA.heap.size, 0, none⟩) 1 1) ⟨acts, [t]⟩ ∧
    Below w.heap.size w (((wA.setCell ⟨R, 0, none⟩ va).setCell ⟨R, 1, none⟩ (.slice (some ⟨wA.heap.size, 0, none⟩) 1 1)).alloc (.cells #[p, q] 52)) := by
  have hw1 := hres.set 0 va
  have hw2 := hw1.set 1 (.slice (some ⟨wA.heap.size, 0, none⟩) 1 1)
  have sz : ((wA.setCell ⟨R, 0, none⟩ va).setCell ⟨R, 1, none⟩ (.slice (some ⟨wA.heap.size, 0, none⟩) 1 1)).heap.size = wA.heap.size := by simp
  have hP2 : NumO ((wA.setCell ⟨R, 0, none⟩ va).setCell ⟨R, 1, none⟩ (.slice (some ⟨wA.heap.size, 0, none⟩) 1 1)) w.heap.size p t.1 := own_stored (own_stored hP hres (by decide)) hw1 (by decide)
  have hQ2 : NumO ((wA.setCell ⟨R, 0, none⟩ va).setCell ⟨R, 1, none⟩ (.slice (some ⟨wA.heap.size, 0, none⟩) 1 1)) w.heap.size q t.2 := own_stored (own_stored hQ hres (by decide)) hw1 (by decide)
  have hL := lit_state hP2 hQ2 (by rw [sz]; exact hb.size)
  rw [sz] at hL
  refine ⟨by simpa using hw2.alloc _, ⟨(own_stored (own_stored hA hres (by decide)) hw1 (by decide)).alloc _, hL⟩, ((hb.setCell (by simpa using hR) _).setCell (by simpa using hR) _).alloc (by rw [sz]; exact hb.size) _⟩
theorem fin_b {w wA : World} {R : Nat} {va vs x y : Value} {acts : List ByteArray} {t : Ste} (hA : wA.ownsRow w.heap.size 9 1 va acts.length (acts.map Value.string)) (hL : StesOwn wA w.heap.size vs [t]) (hres : Whole wA R 28 #[x, y]) (hR : w.heap.size ≤ R) (hb : Below w.heap.size w wA) :
    Whole ((wA.setCell ⟨R, 0, none⟩ va).setCell ⟨R, 1, none⟩ vs) R 28 #[va, vs] ∧ SpcOwn ((wA.setCell ⟨R, 0, none⟩ va).setCell ⟨R, 1, none⟩ vs) w.heap.size va vs ⟨acts, [t]⟩ ∧ Below w.heap.size w ((wA.setCell ⟨R, 0, none⟩ va).setCell ⟨R, 1, none⟩ vs) :=
  ⟨by simpa using (hres.set 0 va).set 1 vs, spc_stored ⟨hA, hL⟩ hres _ _, (hb.setCell (by simpa using hR) _).setCell (by simpa using hR) _⟩

end Go.Proofs.YtbncofgbpffmkaaGreatDoor
/- spec.All, spec.None and what they share. -/
namespace Go.Proofs.YtbncofgbpffmkaaGreatDoor
open Go.RowKit Pl

/-- slices.Clone of some names -/
theorem cloneS_any {w : World} {a : Option Addr} {n c : Nat} {acts : List ByteArray} (A : StrArg w a n c acts) (hn : n ≤ 1000000) :
    Calls Tryz.prog 36 #[.slice a n c] w fun e w' => ∃ v', e = .returned v' ∧ w'.ownsRow w.heap.size 9 1 v' n (acts.map Value.string) ∧ Below w.heap.size w w' := by
  have hl := A.len
  cases a with
  | none =>
    obtain ⟨h1, h2⟩ := A.nils rfl
    subst h1
    have e : acts = [] := List.length_eq_zero_iff.1 hl.symm
    subst e
    refine (Tryz.slices_Clone_string_nil 0 c w).mono ?_
    rintro e w' ⟨rfl, rfl⟩
    exact ⟨_, rfl, World.ownsRow_nil _ _ _ _, Below.refl _ _⟩
  | some ad =>
    by_cases h0 : n = 0
    · subst h0
      have e : acts = [] := List.length_eq_zero_iff.1 hl.symm
      subst e
      refine (Tryz.slices_Clone_string_zero ad c w).mono ?_
      rintro e w' ⟨v', rfl, h1, _, h2⟩
      exact ⟨v', rfl, h1, h2⟩
    · obtain ⟨b, off, e, _⟩ := A.cells 0 (by omega)
      cases e
      refine (Tryz.slices_Clone_string b off n c acts w (by omega) (by omega) (fun j hj => by
        obtain ⟨b', off', e', hc⟩ := A.cells j hj
        cases e'
        exact hc)).mono ?_
      rintro e w' ⟨v', rfl, h1, _, h2⟩
      rw [hl, List.take_length, ← hl] at h1
      exact ⟨v', rfl, h1, h2⟩
/-- as fin_a and fin_b, the rows of the state anywhere -/
theorem fin_c {w wA : World} {base R : Nat} {va p q x y : Value} {acts : List ByteArray} {t : Ste} (hbs : base ≤ w.heap.size) (hA : wA.ownsRow base 9 1 va acts.length (acts.map Value.string)) (hP : NumO wA base p t.1) (hQ : NumO wA base q t.2) (hres : Whole wA R 28 #[x, y]) (hR : w.heap.size ≤ R) (hb : Below w.heap.size w wA) :
    Whole (((wA.setCell ⟨R, 0, none⟩ va).setCell ⟨R, 1, none⟩ (.slice (some ⟨wA.heap.size, 0, none⟩) 1 1)).alloc (.cells #[p, q] 52)) R 28 #[va, .slice (some ⟨wA.heap.size, 0, none⟩) 1 1] ∧
    SpcOwn (((wA.setCell ⟨R, 0, none⟩ va).setCell ⟨R, 1, none⟩ (.slice (some ⟨wA.heap.size, 0, none⟩) 1 1)).alloc (.cells #[p, q] 52)) base va (.slice (some ⟨wA.heap.size, 0, none⟩) 1 1) ⟨acts, [t]⟩ ∧
    Below w.heap.size w (((wA.setCell ⟨R, 0, none⟩ va).setCell ⟨R, 1, none⟩ (.slice (some ⟨wA.heap.size, 0, none⟩) 1 1)).alloc (.cells #[p, q] 52)) := by
  have hw1 := hres.set 0 va
  have hw2 := hw1.set 1 (.slice (some ⟨wA.heap.size, 0, none⟩) 1 1)
  have sz : ((wA.setCell ⟨R, 0, none⟩ va).setCell ⟨R, 1, none⟩ (.slice (some ⟨wA.heap.size, 0, none⟩) 1 1)).heap.size = wA.heap.size := by simp
  have hP2 : NumO ((wA.setCell ⟨R, 0, none⟩ va).setCell ⟨R, 1, none⟩ (.slice (some ⟨wA.heap.size, 0, none⟩) 1 1)) base p t.1 := own_stored (own_stored hP hres (by decide)) hw1 (by decide)
  have hQ2 : NumO ((wA.setCell ⟨R, 0, none⟩ va).setCell ⟨R, 1, none⟩ (.slice (some ⟨wA.heap.size, 0, none⟩) 1 1)) base q t.2 := own_stored (own_stored hQ hres (by decide)) hw1 (by decide)
  have hL := lit_state hP2 hQ2 (by rw [sz]; exact Nat.le_trans hbs hb.size)
  rw [sz] at hL
  refine ⟨by simpa using hw2.alloc _, ⟨(own_stored (own_stored hA hres (by decide)) hw1 (by decide)).alloc _, hL⟩, ((hb.setCell (by simpa using hR) _).setCell (by simpa using hR) _).alloc (by rw [sz]; exact hb.size) _⟩
theorem fin_d {w wA : World} {base R : Nat} {va vs x y : Value} {acts : List ByteArray} {t : Ste} (hA : wA.ownsRow base 9 1 va acts.length (acts.map Value.string)) (hL : StesOwn wA base vs [t]) (hres : Whole wA R 28 #[x, y]) (hR : w.heap.size ≤ R) (hb : Below w.heap.size w wA) :
    Whole ((wA.setCell ⟨R, 0, none⟩ va).setCell ⟨R, 1, none⟩ vs) R 28 #[va, vs] ∧ SpcOwn ((wA.setCell ⟨R, 0, none⟩ va).setCell ⟨R, 1, none⟩ vs) base va vs ⟨acts, [t]⟩ ∧ Below w.heap.size w ((wA.setCell ⟨R, 0, none⟩ va).setCell ⟨R, 1, none⟩ vs) :=
  ⟨by simpa using (hres.set 0 va).set 1 vs, spc_stored ⟨hA, hL⟩ hres _ _, (hb.setCell (by simpa using hR) _).setCell (by simpa using hR) _⟩

set_option maxRecDepth 100000 in
set_option maxHeartbeats 4000000 in
theorem single_any {w : World} {base : Nat} {a : Option Addr} {n c : Nat} {acts : List ByteArray} {pa qa : Option Addr} {pn pc qn qc : Nat} {t : Ste} (A : StrArg w a n c acts) (hn : n ≤ 1000000) (hB : base ≤ w.heap.size) (hP : NumO w base (.slice pa pn pc) t.1) (hQ : NumO w base (.slice qa qn qc) t.2) :
    Calls Tryz.prog 33 #[.slice a n c, .agg #[.slice pa pn pc, .slice qa qn qc]] w fun e w' => ∃ va vs, e = .returned (.agg #[va, vs]) ∧ SpcOwn w' base va vs ⟨acts, [t]⟩ ∧ Below w.heap.size w w' := by
  have HA := Lib.hid A
  have HNl : Hid (acts.length = n) := Lib.hid A.len.symm
  have hb0 := ((Below.refl w.heap.size w).alloc (Nat.le_refl _) (.cells #[.slice pa pn pc, .slice qa qn qc] 52)).alloc (by simp) (.cells #[.slice none 0 0, .slice none 0 0] 28)
  have hbox := (Whole.new w 52 #[.slice pa pn pc, .slice qa qn qc]).alloc (.cells #[.slice none 0 0, .slice none 0 0] 28)
  have hres := Whole.new (w.alloc (.cells #[.slice pa pn pc, .slice qa qn qc] 52)) 28 #[.slice none 0 0, .slice none 0 0]
  have hsz : ((w.alloc (.cells #[.slice pa pn pc, .slice qa qn qc] 52)).alloc (.cells #[.slice none 0 0, .slice none 0 0] 28)).heap.size = w.heap.size + 2 := by simp
  simp only [World.size_alloc] at hres
  obtain ⟨wr, HWr⟩ : ∃ z, Hid ((w.alloc (.cells #[.slice pa pn pc, .slice qa qn qc] 52)).alloc (.cells #[.slice none 0 0, .slice none 0 0] 28) = z) := ⟨_, Lib.hid rfl⟩
  rw [HWr.out] at hb0 hbox hres hsz
  have k0 : wr.cell? ⟨w.heap.size, 0, none⟩ = some (.slice pa pn pc) := hbox.cell 0
  have k1 : wr.cell? ⟨w.heap.size, 1, none⟩ = some (.slice qa qn qc) := hbox.cell 1
  have b0 : wr.cell? ⟨w.heap.size + 1, 0, none⟩ = some (.slice none 0 0) := hres.cell 0
  have b1 : wr.cell? ⟨w.heap.size + 1, 1, none⟩ = some (.slice none 0 0) := hres.cell 1
  have f0 := hres.frozen 0
  have f1 := hres.frozen 1
  have hl : w.heap.size + 1 < wr.heap.size := hres.lt
  have HBr := Lib.hid hb0
  have HRs := Lib.hid hres
  have hbw : w.heap.size ≤ wr.heap.size := by omega
  have hbb : base ≤ wr.heap.size := by omega
  have HN1 := Lib.hid (NumO.below hP hb0)
  have HN2 := Lib.hid (NumO.below hQ hb0)
  have HBs := Lib.hid hB
  clear A hP hQ hb0 hbox hres hsz hB
  go_enter Tryz.func33, Tryz.ntmps33
  go_wp2
  rw [HWr.out]
  go_region_law (first
    | (go_simp; refine (cloneS_any (HA.out.below (by first | exact HBr.out.drew | exact (HBr.out.alloc (by simp; omega) _).drew | exact HBr.out.drew.alloc (by simp; omega) _)) hn).mono ?_; rintro e wA ⟨v', rfl, hA, hgA⟩; obtain ⟨xA, qA, rfl⟩ := own_slice' hA; have hGw : Below wr.heap.size wr wA := (by first | exact (Below.refl _ wr).drew.trans hgA | exact ((Below.refl _ wr).alloc (Nat.le_refl _) _).drew.trans (hgA.mono (by simp)) | exact ((Below.refl _ wr).drew.alloc (by simp) _).trans (hgA.mono (by simp))); have x0 := up_cell hGw k0; have x1 := up_cell hGw k1; have hrA := HRs.out.below hGw HRs.out.lt; have x2 : wA.cell? ⟨w.heap.size + 1, 0, none⟩ = some (.slice none 0 0) := hrA.cell 0; have x3 : wA.cell? ⟨w.heap.size + 1, 1, none⟩ = some (.slice none 0 0) := hrA.cell 1; have x4 := hrA.frozen 0; have x5 := hrA.frozen 1; have x6 := hrA.lt; have x7 := fun o => cell_new x2 o; have x8 := fun o => cell_new x3 o; have hbA := HBr.out.trans (hGw.mono hbw); have hAa : wA.ownsRow base 9 1 (.slice xA n qA) acts.length (acts.map Value.string) := (by rw [HNl.out]; exact own_low hA (by simp; omega)); have hPA : NumO wA base (.slice pa pn pc) t.1 := NumO.below HN1.out hGw; have hQA : NumO wA base (.slice qa qn qc) t.2 := NumO.below HN2.out hGw; (try have hL : StesOwn wA base (.slice (some ⟨wr.heap.size, 0, none⟩) 1 1) [t] := (by first | exact StesOwn.below (show StesOwn (wr.alloc (.cells #[.slice pa pn pc, .slice qa qn qc] 52)).drew base _ _ from lit_state HN1.out HN2.out hbb) hgA)); dsimp only))
  all_goals first
    | (obtain ⟨hW, hO, hBf⟩ := fin_d hAa hL hrA (by omega) hbA
       have g0 := hW.cell 0
       have g1 := hW.cell 1
       simp only [List.getElem?_toArray, List.getElem?_cons_succ, List.getElem?_cons_zero] at g0 g1
       go_wp2
       exact bodyPost_ret (v := .agg #[.slice xA n qA, .slice (some ⟨wr.heap.size, 0, none⟩) 1 1]) (by simp [results, Tryz.results33, go_sem, g0, g1]) rfl ⟨_, _, rfl, hO, hBf⟩)
    | (obtain ⟨hW, hO, hBf⟩ := fin_c HBs.out hAa hPA hQA hrA (by omega) hbA
       have g0 := hW.cell 0
       have g1 := hW.cell 1
       simp only [List.getElem?_toArray, List.getElem?_cons_succ, List.getElem?_cons_zero] at g0 g1
       go_wp2
       exact bodyPost_ret (v := .agg #[.slice xA n qA, .slice (some ⟨wA.heap.size, 0, none⟩) 1 1]) (by simp [results, Tryz.results33, go_sem, g0, g1]) rfl ⟨_, _, rfl, hO, hBf⟩)
end Go.Proofs.YtbncofgbpffmkaaGreatDoor
