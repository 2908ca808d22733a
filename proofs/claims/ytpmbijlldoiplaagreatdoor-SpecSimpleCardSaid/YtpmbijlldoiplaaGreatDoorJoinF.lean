/- Texts joined: Rx, SimPl, RSim, SpAcc, Simple, SimAll, Word, ROf, SimOf, SimArg. -/
import Derived.Test.YtpmbijlldoiplaaGreatDoorSOwn
import Derived.Laws.OwnMore
import Derived.Test.YtpmbijlldoiplaaGreatDoorSpecPl
import Derived.Test.YtpmbijlldoiplaaGreatDoorSCopy
import Derived.Test.YtpmbijlldoiplaaGreatDoorBuild
import Derived.Test.YtpmbijlldoiplaaGreatDoorCheck
import Derived.Deep.RegionLaw
import Derived.Test.YtpmbijlldoiplaaGreatDoorJoinB
import Derived.Test.YtpmbijlldoiplaaGreatDoorRep
import Derived.Test.YtpmbijlldoiplaaGreatDoorShelfV
import Derived.Test.YtpmbijlldoiplaaGreatDoorRNext
import Derived.Test.YtpmbijlldoiplaaGreatDoorJoinA
import Derived.Test.YtpmbijlldoiplaaGreatDoorIsW
import Derived.Deep.RegionHeld3
/- A state that a call puts together in a variable of its own: two rows of numbers. -/
namespace Go.Proofs.YtpmbijlldoiplaaGreatDoor
open Go.RowKit Pl

/-- the variable at block XB holds va and vn: the numbers acc and nx, in rows of their own -/
structure RxAt (w wr : World) (XB : Nat) (va vn : Value) (acc nx : List Int) : Prop where
  box : Whole wr XB 101 #[va, vn]
  acc : NumO wr w.heap.size va acc
  nx : NumO wr w.heap.size vn nx
  far : va.ownBlock = none ∨ va.ownBlock ≠ vn.ownBlock
  low : w.heap.size ≤ XB
  below : Below w.heap.size w wr
theorem RxAt.drew {w wr : World} {XB : Nat} {va vn : Value} {acc nx : List Int} (h : RxAt w wr XB va vn acc nx) : RxAt w wr.drew XB va vn acc nx :=
  ⟨h.box, h.acc, h.nx, h.far, h.low, h.below.drew⟩
theorem RxAt.up {w wr wA : World} {XB : Nat} {va vn : Value} {acc nx : List Int} (h : RxAt w wr XB va vn acc nx) (hb : Below wr.heap.size wr wA) : RxAt w wA XB va vn acc nx :=
  ⟨h.box.below hb h.box.lt, h.acc.below hb, h.nx.below hb, h.far, h.low, h.below.trans (hb.mono h.below.size)⟩
/-- an append to the second field -/
theorem RxAt.more {w wA wB : World} {XB : Nat} {va vn v2 : Value} {acc nx nx' : List Int} (h : RxAt w wA XB va vn acc nx) (hg : wA.grownBy wB vn.ownBlock) (hB : NumO wB w.heap.size v2 nx') (hat : v2.ownBlock = vn.ownBlock ∨ v2.ownBlock = some wA.heap.size) :
    RxAt w (wB.setCell ⟨XB, 1, none⟩ v2) XB va v2 acc nx' := by
  have hb := h.box.grown hg (own_whole h.nx h.box (by decide))
  have lo := h.low
  have ha := h.acc.kept hg h.far
  refine ⟨by simpa using hb.set 1 v2, ha.kept (grown_self wB ⟨XB, 1, none⟩ v2) (.inr (own_whole ha hb (by decide)).symm), hB.kept (grown_self wB ⟨XB, 1, none⟩ v2) (.inr (own_whole hB hb (by decide)).symm), ?_, lo, (h.below.grown hg h.below.size (own_ge h.nx)).setCell (by simpa using lo) _⟩
  rcases hat with e | e
  · rw [e]; exact h.far
  · right
    rw [e]
    intro q
    have := (World.ownsRow.lt h.acc _ q).2
    omega
/-- an append to the first field -/
theorem RxAt.push {w wA wB : World} {XB : Nat} {va vn v2 : Value} {acc acc' nx : List Int} (h : RxAt w wA XB va vn acc nx) (hg : wA.grownBy wB va.ownBlock) (hB : NumO wB w.heap.size v2 acc') (hat : v2.ownBlock = va.ownBlock ∨ v2.ownBlock = some wA.heap.size) :
    RxAt w (wB.setCell ⟨XB, 0, none⟩ v2) XB v2 vn acc' nx := by
  have hb := h.box.grown hg (own_whole h.acc h.box (by decide))
  have lo := h.low
  have far1 : vn.ownBlock = none ∨ vn.ownBlock ≠ va.ownBlock := by
    rcases h.far with e | e
    · rw [e]
      cases vn.ownBlock <;> simp
    · exact .inr (fun q => e q.symm)
  have hn := h.nx.kept hg far1
  refine ⟨by simpa using hb.set 0 v2, hB.kept (grown_self wB ⟨XB, 0, none⟩ v2) (.inr (own_whole hB hb (by decide)).symm), hn.kept (grown_self wB ⟨XB, 0, none⟩ v2) (.inr (own_whole hn hb (by decide)).symm), ?_, lo, (h.below.grown hg h.below.size (own_ge h.acc)).setCell (by simpa using lo) _⟩
  rcases hat with e | e
  · rw [e]; exact h.far
  · right
    rw [e]
    intro q
    have := (World.ownsRow.lt h.nx _ q.symm).2
    omega
/-- a store into the second field's row -/
theorem RxAt.put {w wr : World} {XB n cp : Nat} {ga : Option Addr} {va : Value} {acc nx : List Int} (h : RxAt w wr XB va (.slice ga n cp) acc nx) (hn : nx.length = n) (j : Nat) (hj : j < n) (u : Int) :
    ∃ g, ga = some ⟨g, 0, none⟩ ∧ wr.cell? ⟨g, j, none⟩ = some (.int .i64 (nx.getD j 0)) ∧ wr.frozen? ⟨g, j, none⟩ = false ∧ RxAt w (wr.setCell ⟨g, j, none⟩ (.int .i64 u)) XB va (.slice ga n cp) acc (nx.set j u) := by
  have h1 := h.nx
  unfold NumO at h1
  rw [hn] at h1
  rcases h1.2 with ⟨e, e0⟩ | ⟨g, cap, cur, e, _⟩
  · omega
  · simp only [Value.slice.injEq] at e
    obtain ⟨rfl, _, rfl⟩ := e
    have hs := World.ownsRow.stored h1 j (.int .i64 u)
    have e : ((nx.map (Value.int .i64)).set j (.int .i64 u)) = (nx.set j u).map (Value.int .i64) := by rw [List.map_set]
    rw [e] at hs
    have el : (nx.set j u).length = nx.length := List.length_set
    have g1 := own_whole h1 h.box (by decide)
    simp only [Value.ownBlock] at g1
    refine ⟨g, rfl, ?_, h1.frozenAt j, ⟨h.box.grown hs.2 g1, h.acc.kept hs.2 (by simpa [Value.ownBlock] using h.far), ?_, by simpa [Value.ownBlock] using h.far, h.low, h.below.setCell (own_ge h1 g rfl) _⟩⟩
    · rw [h1.cellAt j (by omega), List.getElem?_map, List.getElem?_eq_getElem (by omega), List.getD_eq_getElem?_getD, List.getElem?_eq_getElem (by omega)]
      rfl
    · unfold NumO; rw [el, hn]; exact hs.1
end Go.Proofs.YtpmbijlldoiplaaGreatDoor
/- Plain facts: the specification of a system, and the two with one state; nothing here is about a program. -/
namespace Go.Proofs.YtpmbijlldoiplaaGreatDoor.Pl
open Go Go.Lib

/-- the numbers below k -/
def upTo (k : Nat) : List Int := (List.range k).map fun (j : Nat) => (j : Int)
theorem upTo_next (k : Nat) : upTo (k + 1) = upTo k ++ [(k : Int)] := by simp [upTo, List.range_succ]
theorem upTo_len (k : Nat) : (upTo k).length = k := by simp [upTo]
def allQ (acts : List ByteArray) : Spc := ⟨acts, [(upTo (2 ^ acts.length), List.replicate acts.length 0)]⟩
def noneQ (acts : List ByteArray) : Spc := ⟨acts, [([], List.replicate acts.length (-1))]⟩
/-- the set of the actions of some edges -/
def setE (l : List Edg) : Nat := l.foldl (fun s e => s ||| 2 ^ e.1.toNat) 0
/-- where the first j edges lead; nothing if two of them have the same action -/
def nxE (na : Nat) (l : List Edg) : Nat → Option (List Int)
  | 0 => some (List.replicate na (-1))
  | j + 1 => (nxE na l j).bind fun nx => if nx.getD (edAt l j).1.toNat 0 = -1 then some (nx.set (edAt l j).1.toNat (edAt l j).2) else none
/-- the states of the specification of a system's first i states -/
def ofK (m : Syst) : Nat → Option (List Ste)
  | 0 => some []
  | i + 1 => (ofK m i).bind fun ss => (nxE m.acts.length (stAt m.states i) (stAt m.states i).length).map fun nx => ss ++ [([(setE (stAt m.states i) : Int)], nx)]
def ofQ (m : Syst) : Option Spc := (ofK m m.states.length).map fun ss => ⟨m.acts, ss⟩
theorem nxE_stop {na : Nat} {l : List Edg} {j : Nat} {nx : List Int} (h : nxE na l j = some nx) (hb : nx.getD (edAt l j).1.toNat 0 ≠ -1) : nxE na l (j + 1) = none := by
  unfold nxE
  rw [h, Option.bind_some, if_neg hb]
theorem nxE_go {na : Nat} {l : List Edg} {j : Nat} {nx : List Int} (h : nxE na l j = some nx) (hb : nx.getD (edAt l j).1.toNat 0 = -1) : nxE na l (j + 1) = some (nx.set (edAt l j).1.toNat (edAt l j).2) := by
  unfold nxE
  rw [h, Option.bind_some, if_pos hb]
theorem nxE_none {na : Nat} {l : List Edg} {j : Nat} (h : nxE na l j = none) : ∀ k, nxE na l (j + k) = none
  | 0 => h
  | k + 1 => by
    rw [← Nat.add_assoc]
    unfold nxE
    rw [nxE_none h k]
    rfl
theorem ofK_none {m : Syst} {i : Nat} (h : ofK m i = none) : ∀ k, ofK m (i + k) = none
  | 0 => h
  | k + 1 => by
    rw [← Nat.add_assoc]
    unfold ofK
    rw [ofK_none h k]
    rfl
theorem ofQ_stop {m : Syst} {i j : Nat} {ss : List Ste} (h : ofK m i = some ss) (hi : i < m.states.length) (hj : j ≤ (stAt m.states i).length) (hn : nxE m.acts.length (stAt m.states i) j = none) : ofQ m = none := by
  have h1 : ofK m (i + 1) = none := by
    unfold ofK
    have := nxE_none hn ((stAt m.states i).length - j)
    rw [show j + ((stAt m.states i).length - j) = (stAt m.states i).length by omega] at this
    rw [h, Option.bind_some, this]
    rfl
  have h2 := ofK_none h1 (m.states.length - (i + 1))
  rw [show i + 1 + (m.states.length - (i + 1)) = m.states.length by omega] at h2
  unfold ofQ
  rw [h2]
  rfl
theorem ofK_go {m : Syst} {i : Nat} {ss : List Ste} {nx : List Int} (h : ofK m i = some ss) (hn : nxE m.acts.length (stAt m.states i) (stAt m.states i).length = some nx) : ofK m (i + 1) = some (ss ++ [([(setE (stAt m.states i) : Int)], nx)]) := by
  unfold ofK
  rw [h, Option.bind_some, hn]
  rfl
theorem ofQ_end {m : Syst} {ss : List Ste} (h : ofK m m.states.length = some ss) : ofQ m = some ⟨m.acts, ss⟩ := by
  unfold ofQ
  rw [h]
  rfl
theorem nxE_fit {na ns : Nat} {l : List Edg} (hl : ∀ k, k < l.length → 0 ≤ (edAt l k).2 ∧ (edAt l k).2 < ns) : ∀ j nx, j ≤ l.length → nxE na l j = some nx → nx.length = na ∧ ∀ x ∈ nx, -1 ≤ x ∧ x < (ns : Int) + 1
  | 0, nx, _, h => by
    cases h
    refine ⟨by simp, fun x hx => ?_⟩
    have := List.eq_of_mem_replicate hx
    omega
  | j + 1, nx, hj, h => by
    unfold nxE at h
    cases h1 : nxE na l j with
    | none => rw [h1] at h; cases h
    | some nx0 =>
      rw [h1, Option.bind_some] at h
      obtain ⟨h2, h3⟩ := nxE_fit hl j nx0 (by omega) h1
      split at h
      · cases h
        refine ⟨by rw [List.length_set]; exact h2, fun x hx => ?_⟩
        rcases List.mem_or_eq_of_mem_set hx with hx | hx
        · exact h3 x hx
        · have := hl j (by omega)
          omega
      · cases h
end Go.Proofs.YtpmbijlldoiplaaGreatDoor.Pl
/- The reference's All and Nothing. -/
namespace Go.Proofs.YtpmbijlldoiplaaGreatDoor
open Go.RowKit Pl

/-- a literal row of one state -/
theorem lit_state {W : World} {base : Nat} {p q : Value} {t : Ste} (hP : NumO W base p t.1) (hQ : NumO W base q t.2) (hb : base ≤ W.heap.size) : StesOwn (W.alloc (.cells #[p, q] 101)) base (.slice (some ⟨W.heap.size, 0, none⟩) 1 1) [t] := by
  refine ⟨[(p, q)], rfl, ?_, fun i hi => ?_⟩
  · have h := World.ownsRow_lit (base := base) (e := 101) (size := 2) W #[p, q] 1 hb (by unfold maxLen; omega) rfl
    simpa [rcells] using h
  · obtain rfl : i = 0 := by simpa using hi
    exact ⟨(p, q), rfl, by simpa [teAt] using hP.alloc _, by simpa [teAt] using hQ.alloc _⟩
/-- a specification of the call's own, stored into a variable -/
theorem spc_stored {W : World} {base g : Nat} {va vs x y : Value} {s : Spc} (h : SpcOwn W base va vs s) (hw : Whole W g 40 #[x, y]) (u v : Value) : SpcOwn ((W.setCell ⟨g, 0, none⟩ u).setCell ⟨g, 1, none⟩ v) base va vs s := by
  have hw1 := hw.set 0 u
  have s1 := h.rows.kept (grown_self W ⟨g, 0, none⟩ u) (.inr (own_whole h.rows.choose_spec.2.1 hw (by decide)).symm) (fun r l hr => .inr (own_whole hr hw (by decide)).symm)
  exact ⟨own_stored (own_stored h.acts hw (by decide)) hw1 (by decide), s1.kept (grown_self _ ⟨g, 1, none⟩ v) (.inr (own_whole s1.choose_spec.2.1 hw1 (by decide)).symm) (fun r l hr => .inr (own_whole hr hw1 (by decide)).symm)⟩

/-- what a call leaves that stores a specification with one state into its result: the row of the state made last, or before the list of actions -/
theorem fin_a {w wA : World} {R : Nat} {va p q x y : Value} {acts : List ByteArray} {t : Ste} (hA : wA.ownsRow w.heap.size 9 1 va acts.length (acts.map Value.string)) (hP : NumO wA w.heap.size p t.1) (hQ : NumO wA w.heap.size q t.2) (hres : Whole wA R 40 #[x, y]) (hR : w.heap.size ≤ R) (hb : Below w.heap.size w wA) :
    Whole (((wA.setCell ⟨R, 0, none⟩ va).setCell ⟨R, 1, none⟩ (.slice (some ⟨wA.heap.size, 0, none⟩) 1 1)).alloc (.cells #[p, q] 101)) R 40 #[va, .slice (some ⟨wA.heap.size, 0, none⟩) 1 1] ∧
    SpcOwn (((wA.setCell ⟨R, 0, none⟩ va).setCell ⟨R, 1, none⟩ (.slice (some ⟨wA.heap.size, 0, none⟩) 1 1)).alloc (.cells #[p, q] 101)) w.heap.size va (.slice (some ⟨wA.heap.size, 0, none⟩) 1 1) ⟨acts, [t]⟩ ∧
    Below w.heap.size w (((wA.setCell ⟨R, 0, none⟩ va).setCell ⟨R, 1, none⟩ (.slice (some ⟨wA.heap.size, 0, none⟩) 1 1)).alloc (.cells #[p, q] 101)) := by
  have hw1 := hres.set 0 va
  have hw2 := hw1.set 1 (.slice (some ⟨wA.heap.size, 0, none⟩) 1 1)
  have sz : ((wA.setCell ⟨R, 0, none⟩ va).setCell ⟨R, 1, none⟩ (.slice (some ⟨wA.heap.size, 0, none⟩) 1 1)).heap.size = wA.heap.size := by simp
  have hP2 : NumO ((wA.setCell ⟨R, 0, none⟩ va).setCell ⟨R, 1, none⟩ (.slice (some ⟨wA.heap.size, 0, none⟩) 1 1)) w.heap.size p t.1 := own_stored (own_stored hP hres (by decide)) hw1 (by decide)
  have hQ2 : NumO ((wA.setCell ⟨R, 0, none⟩ va).setCell ⟨R, 1, none⟩ (.slice (some ⟨wA.heap.size, 0, none⟩) 1 1)) w.heap.size q t.2 := own_stored (own_stored hQ hres (by decide)) hw1 (by decide)
  have hL := lit_state hP2 hQ2 (by rw [sz]; exact hb.size)
  rw [sz] at hL
  refine ⟨by simpa using hw2.alloc _, ⟨(own_stored (own_stored hA hres (by decide)) hw1 (by decide)).alloc _, hL⟩, ((hb.setCell (by simpa using hR) _).setCell (by simpa using hR) _).alloc (by rw [sz]; exact hb.size) _⟩
theorem fin_b {w wA : World} {R : Nat} {va vs x y : Value} {acts : List ByteArray} {t : Ste} (hA : wA.ownsRow w.heap.size 9 1 va acts.length (acts.map Value.string)) (hL : StesOwn wA w.heap.size vs [t]) (hres : Whole wA R 40 #[x, y]) (hR : w.heap.size ≤ R) (hb : Below w.heap.size w wA) :
    Whole ((wA.setCell ⟨R, 0, none⟩ va).setCell ⟨R, 1, none⟩ vs) R 40 #[va, vs] ∧ SpcOwn ((wA.setCell ⟨R, 0, none⟩ va).setCell ⟨R, 1, none⟩ vs) w.heap.size va vs ⟨acts, [t]⟩ ∧ Below w.heap.size w ((wA.setCell ⟨R, 0, none⟩ va).setCell ⟨R, 1, none⟩ vs) :=
  ⟨by simpa using (hres.set 0 va).set 1 vs, spc_stored ⟨hA, hL⟩ hres _ _, (hb.setCell (by simpa using hR) _).setCell (by simpa using hR) _⟩

set_option maxRecDepth 100000 in
set_option maxHeartbeats 4000000 in
theorem RNothing_any {w : World} {a : Option Addr} {n c : Nat} {acts : List ByteArray} (A : StrArg w a n c acts) (ha : actsB acts = true) :
    Calls Tryz.prog 37 #[.slice a n c] w fun e w' => ∃ va vs, e = .returned (.agg #[va, vs]) ∧ SpcOwn w' w.heap.size va vs (noneQ acts) ∧ Below w.heap.size w w' := by
  obtain ⟨i0, hi, hz0, hz1, hz2⟩ := info_parts infoString
  obtain ⟨i1, hi1, hz10, hz11, hz12⟩ := info_parts infoNumS
  have hn8 : n ≤ 8 := by have := ((actsB_iff acts).1 ha).1; have := A.len; omega
  have HA := Lib.hid A
  have HNil := Lib.hid A.nils
  have HNl : Hid (acts.length = n) := Lib.hid A.len.symm
  have HL : Hid ((acts.map Value.string).length = n * 1) := Lib.hid (by have := A.len; simp; omega)
  have hb0 := (Below.refl w.heap.size w).alloc (Nat.le_refl _) (.cells #[.slice none 0 0, .slice none 0 0] 40)
  have hres0 := Whole.new w 40 #[.slice none 0 0, .slice none 0 0]
  have hsz0 : (w.alloc (.cells #[.slice none 0 0, .slice none 0 0] 40)).heap.size = w.heap.size + 1 := by simp
  obtain ⟨w0, HW0⟩ : ∃ z, Hid (w.alloc (.cells #[.slice none 0 0, .slice none 0 0] 40) = z) := ⟨_, Lib.hid rfl⟩
  rw [HW0.out] at hb0 hres0 hsz0
  have HXi : Hid (RxAt w0 (w0.alloc (.cells #[.slice none 0 0, .slice none 0 0] 101)) (w.heap.size + 1) (.slice none 0 0) (.slice none 0 0) [] []) := Lib.hid
    ⟨by rw [← hsz0]; exact Whole.new w0 101 #[.slice none 0 0, .slice none 0 0], World.ownsRow_nil _ _ _ _, World.ownsRow_nil _ _ _ _, .inl rfl, by omega, (Below.refl _ w0).alloc (Nat.le_refl _) _⟩
  have HB0 := Lib.hid hb0
  have HRes0 := Lib.hid hres0
  have HZ0 := Lib.hid hsz0
  clear A ha hb0 hres0 hsz0
  go_enter Tryz.func37, Tryz.ntmps37
  go_wp2
  rw [HW0.out]
  go_loopw [6] (fun p wr => ∃ (j : Nat) (vn : Value), j ≤ n ∧ p = .int .i64 j ∧ Hid (RxAt w0 wr (w.heap.size + 1) (.slice none 0 0) vn [] (List.replicate j (-1)))) (fun p _ => n - (intOf p).toNat)
  case atStart => exact ⟨0, _, Nat.zero_le _, rfl, HXi⟩
  case round =>
    obtain ⟨j, vn, hj, rfl, HR⟩ := hrel
    obtain ⟨ga, gc, hvn⟩ := own_slice' HR.out.nx
    rw [List.length_replicate] at hvn
    subst hvn
    have k1 := HR.out.box.cell 1
    simp only [List.getElem?_toArray, List.getElem?_cons_succ, List.getElem?_cons_zero] at k1
    have hzr := HR.out.below.size
    by_cases hlt : j < n
    · have hal : Below wr.heap.size wr (wr.alloc (.cells #[.int .i64 (-1)] 3)) := (Below.refl _ wr).alloc (Nat.le_refl _) _
      have HRa := Lib.hid (HR.out.up hal)
      have HOw : Hid ((wr.alloc (.cells #[.int .i64 (-1)] 3)).ownsRow w0.heap.size 3 1 (.slice ga j gc) j ((List.replicate j (-1 : Int)).map (Value.int .i64))) := Lib.hid (by
        have := HRa.out.nx
        unfold NumO at this
        rwa [List.length_replicate] at this)
      clear hal
      go_wp2_with (at_builtin; (refine wpList_append_sz rfl (.tmp 9) (.tmp 10) 28 rfl w0.heap.size 3 i1 (.int .i64 0) 1 8 Tryz.underlying28 hi1 hz10 hz11 hz12 rfl (by decide) (.slice ga j gc) rfl j _ HOw.out (some ⟨wr.heap.size, 0, none⟩) 1 1 rfl [.int .i64 (-1)] (fun h => by cases h) rfl (one_src _ _ _) (by simp [Value.oneCell']) (by unfold maxLen; omega) (by omega) (by simp; omega) ?_); intro v2 wB hB hgB hatB; refine Hid.out ?_)
      have hN2' : NumO wB w0.heap.size v2 (List.replicate (j + 1) (-1)) := by
        unfold NumO
        rw [List.length_replicate, List.replicate_succ', List.map_append]
        exact hB
      obtain ⟨xa, xc, rfl⟩ := own_slice' hB
      have kw := HRa.out.box.grown hgB (own_whole HRa.out.nx HRa.out.box (by decide))
      have m1 := kw.cell 1
      have m2 := kw.frozen 1
      have m3 := kw.lt
      simp only [List.getElem?_toArray, List.getElem?_cons_succ, List.getElem?_cons_zero] at m1
      have HNx := Lib.hid (HRa.out.more hgB hN2' hatB)
      clear hB hgB hatB hN2' kw
      refine Lib.hid ?_
      go_wp2
      go_roundw
      case rel => exact ⟨j + 1, _, by omega, by go_num, HNx⟩
      case measure => simp [intOf]; omega
    · obtain rfl : n = j := by omega
      have k0 := HR.out.box.cell 0
      have hres := HRes0.out.below HR.out.below HRes0.out.lt
      have b0 := hres.cell 0
      have b1 := hres.cell 1
      have f0 := hres.frozen 0
      have f1 := hres.frozen 1
      have hl := hres.lt
      have hl2 := HR.out.box.lt
      simp only [List.getElem?_toArray, List.getElem?_cons_succ, List.getElem?_cons_zero] at k0 b0 b1
      have HRs := Lib.hid hres
      have HBr := Lib.hid (HB0.out.trans (HR.out.below.mono (by have := HZ0.out; omega)))
      have hbw : w.heap.size ≤ wr.heap.size := by omega
      have HN1 := Lib.hid (own_low HR.out.acc (show w.heap.size ≤ w0.heap.size by have := HZ0.out; omega))
      have HN2 := Lib.hid (own_low HR.out.nx (show w.heap.size ≤ w0.heap.size by have := HZ0.out; omega))
      clear hres
      go_wp2
      go_region_law (first
        | (refine step_append_sz rfl (.const (.slice none 0 0)) (.tmp 14) 22 (by rfl) w.heap.size 9 i0 (.string ⟨#[]⟩) 1 16 Tryz.underlying22 hi hz0 hz1 hz2 rfl (by decide) (.slice none 0 0) (by rfl) 0 [] (World.ownsRow_nil _ _ _ _) a n c (by rfl) (acts.map Value.string) HNil.out HL.out (strs_src (HA.out.below (by first | exact HBr.out.drew | exact (HBr.out.alloc (by simp; omega) _).drew | exact HBr.out.drew.alloc (by simp; omega) _))) (strs_one _) (by unfold maxLen; omega) (by omega) (by simp; omega) ?_; intro v wA hA hg hat; clear hat; simp only [Nat.zero_add, List.nil_append] at hA; obtain ⟨xA, qA, rfl⟩ := own_slice hA; have hGw : Below wr.heap.size wr wA := (by first | exact (Below.refl _ wr).drew.trans (below_up hg) | exact ((Below.refl _ wr).alloc (Nat.le_refl _) _).drew.trans ((below_up hg).mono (by simp)) | exact ((Below.refl _ wr).drew.alloc (by simp) _).trans ((below_up hg).mono (by simp))); have x0 := up_cell hGw k0; have x1 := up_cell hGw k1; have hrA := HRs.out.below hGw HRs.out.lt; have x2 : wA.cell? ⟨w.heap.size, 0, none⟩ = some (.slice none 0 0) := hrA.cell 0; have x3 : wA.cell? ⟨w.heap.size, 1, none⟩ = some (.slice none 0 0) := hrA.cell 1; have x4 := hrA.frozen 0; have x5 := hrA.frozen 1; have x6 := hrA.lt; have x7 := fun o => cell_new x2 o; have x8 := fun o => cell_new x3 o; have hbA := HBr.out.trans (hGw.mono hbw); have hAa : wA.ownsRow w.heap.size 9 1 (.slice xA n qA) acts.length (acts.map Value.string) := (by rw [HNl.out]; exact hA); have hPA : NumO wA w.heap.size (.slice none 0 0) [] := NumO.below HN1.out hGw; have hQA : NumO wA w.heap.size (.slice ga n gc) (List.replicate n (-1)) := NumO.below HN2.out hGw; (try have hL : StesOwn wA w.heap.size (.slice (some ⟨wr.heap.size, 0, none⟩) 1 1) [([], List.replicate n (-1))] := (by first | exact StesOwn.below (show StesOwn (wr.alloc (.cells #[.slice none 0 0, .slice ga n gc] 101)).drew w.heap.size _ _ from lit_state (t := ([], List.replicate n (-1))) HN1.out HN2.out hbw) (below_up hg)))))
      all_goals first
        | (obtain ⟨hW, hO, hBf⟩ := fin_b (t := ([], List.replicate n (-1))) hAa hL hrA (Nat.le_refl _) hbA
           have g0 := hW.cell 0
           have g1 := hW.cell 1
           simp only [List.getElem?_toArray, List.getElem?_cons_succ, List.getElem?_cons_zero] at g0 g1
           have HF := Lib.hid (show noneQ acts = ⟨acts, [([], List.replicate n (-1))]⟩ by unfold noneQ; rw [HNl.out])
           go_wp2
           exact bodyPost_ret (v := .agg #[.slice xA n qA, .slice (some ⟨wr.heap.size, 0, none⟩) 1 1]) (by simp [results, Tryz.results37, go_sem, g0, g1]) rfl ⟨_, _, rfl, by rw [HF.out]; exact hO, hBf⟩)
        | (obtain ⟨hW, hO, hBf⟩ := fin_a (t := ([], List.replicate n (-1))) hAa hPA hQA hrA (Nat.le_refl _) hbA
           have g0 := hW.cell 0
           have g1 := hW.cell 1
           simp only [List.getElem?_toArray, List.getElem?_cons_succ, List.getElem?_cons_zero] at g0 g1
           have HF := Lib.hid (show noneQ acts = ⟨acts, [([], List.replicate n (-1))]⟩ by unfold noneQ; rw [HNl.out])
           go_wp2
           exact bodyPost_ret (v := .agg #[.slice xA n qA, .slice (some ⟨wA.heap.size, 0, none⟩) 1 1]) (by simp [results, Tryz.results37, go_sem, g0, g1]) rfl ⟨_, _, rfl, by rw [HF.out]; exact hO, hBf⟩)
set_option maxRecDepth 100000 in
set_option maxHeartbeats 4000000 in
theorem RAll_any {w : World} {a : Option Addr} {n c : Nat} {acts : List ByteArray} (A : StrArg w a n c acts) (ha : actsB acts = true) :
    Calls Tryz.prog 36 #[.slice a n c] w fun e w' => ∃ va vs, e = .returned (.agg #[va, vs]) ∧ SpcOwn w' w.heap.size va vs (allQ acts) ∧ Below w.heap.size w w' := by
  obtain ⟨i0, hi, hz0, hz1, hz2⟩ := info_parts infoString
  obtain ⟨i1, hi1, hz10, hz11, hz12⟩ := info_parts infoNumS
  have hn8 : n ≤ 8 := by have := ((actsB_iff acts).1 ha).1; have := A.len; omega
  obtain ⟨p1, p2⟩ := pow_le n (by omega)
  have hN : ((2 ^ n : Nat) : Int) = (2 : Int) ^ n := by norm_cast
  have hN8 : 2 ^ n ≤ 2 ^ 8 := Nat.pow_le_pow_right (by decide) hn8
  obtain ⟨N, HN⟩ : ∃ N : Nat, Hid (2 ^ n = N) := ⟨_, Lib.hid rfl⟩
  rw [HN.out] at hN hN8
  have HNN := Lib.hid hN
  clear hN
  have HA := Lib.hid A
  have HNil := Lib.hid A.nils
  have HNl : Hid (acts.length = n) := Lib.hid A.len.symm
  have HL : Hid ((acts.map Value.string).length = n * 1) := Lib.hid (by have := A.len; simp; omega)
  have hb0 := (Below.refl w.heap.size w).alloc (Nat.le_refl _) (.cells #[.slice none 0 0, .slice none 0 0] 40)
  have hres0 := Whole.new w 40 #[.slice none 0 0, .slice none 0 0]
  have hsz0 : (w.alloc (.cells #[.slice none 0 0, .slice none 0 0] 40)).heap.size = w.heap.size + 1 := by simp
  obtain ⟨w0, HW0⟩ : ∃ z, Hid (w.alloc (.cells #[.slice none 0 0, .slice none 0 0] 40) = z) := ⟨_, Lib.hid rfl⟩
  rw [HW0.out] at hb0 hres0 hsz0
  have HXi : Hid (RxAt w0 (w0.alloc (.cells #[.slice none 0 0, .slice none 0 0] 101)) (w.heap.size + 1) (.slice none 0 0) (.slice none 0 0) [] []) := Lib.hid
    ⟨by rw [← hsz0]; exact Whole.new w0 101 #[.slice none 0 0, .slice none 0 0], World.ownsRow_nil _ _ _ _, World.ownsRow_nil _ _ _ _, .inl rfl, by omega, (Below.refl _ w0).alloc (Nat.le_refl _) _⟩
  have HB0 := Lib.hid hb0
  have HRes0 := Lib.hid hres0
  have HZ0 := Lib.hid hsz0
  clear A ha hb0 hres0 hsz0
  go_enter Tryz.func36, Tryz.ntmps36
  go_wp2
  rw [HW0.out]
  go_loopw [4, 8] (fun _ p wr => ∃ (j : Nat) (va : Value), j ≤ N ∧ p = .int .i64 j ∧ Hid (RxAt w0 wr (w.heap.size + 1) va (.slice none 0 0) (upTo j) [])) (fun _ p _ => N - (intOf p).toNat)
  case atStart => exact ⟨0, _, Nat.zero_le _, rfl, HXi⟩
  case round =>
    obtain ⟨j, va, hj, rfl, HR⟩ := hrel
    obtain ⟨ha, hc, hva⟩ := own_slice' HR.out.acc
    rw [upTo_len] at hva
    subst hva
    have k0 := HR.out.box.cell 0
    simp only [List.getElem?_toArray, List.getElem?_cons_zero] at k0
    have hzr := HR.out.below.size
    by_cases hlt : j < N
    · have hlt' : (j : Int) < 2 ^ n := by rw [← HNN.out]; omega
      have hal : Below wr.heap.size wr (wr.alloc (.cells #[.int .i64 j] 3)) := (Below.refl _ wr).alloc (Nat.le_refl _) _
      have HRa := Lib.hid (HR.out.up hal)
      have HOw : Hid ((wr.alloc (.cells #[.int .i64 j] 3)).ownsRow w0.heap.size 3 1 (.slice ha j hc) j ((upTo j).map (Value.int .i64))) := Lib.hid (by
        have := HRa.out.acc
        unfold NumO at this
        rwa [upTo_len] at this)
      clear hal
      go_wp2_with (at_builtin; (refine wpList_append_sz rfl (.tmp 12) (.tmp 14) 28 rfl w0.heap.size 3 i1 (.int .i64 0) 1 8 Tryz.underlying28 hi1 hz10 hz11 hz12 rfl (by decide) (.slice ha j hc) rfl j _ HOw.out (some ⟨wr.heap.size, 0, none⟩) 1 1 rfl [.int .i64 j] (fun h => by cases h) rfl (one_src _ _ _) (by simp [Value.oneCell']) (by unfold maxLen; omega) (by omega) (by simp; omega) ?_); intro v2 wB hB hgB hatB; refine Hid.out ?_)
      have hN2' : NumO wB w0.heap.size v2 (upTo (j + 1)) := by
        unfold NumO
        rw [upTo_len, upTo_next, List.map_append]
        exact hB
      obtain ⟨xa, xc, rfl⟩ := own_slice' hB
      have kw := HRa.out.box.grown hgB (own_whole HRa.out.acc HRa.out.box (by decide))
      have m1 := kw.cell 0
      have m2 := kw.frozen 0
      have m3 := kw.lt
      simp only [List.getElem?_toArray, List.getElem?_cons_zero] at m1
      have HNx := Lib.hid (HRa.out.push hgB hN2' hatB)
      clear hB hgB hatB hN2' kw
      refine Lib.hid ?_
      go_wp2
      go_roundw
      case rel => exact ⟨j + 1, _, by omega, by go_num, HNx⟩
      case measure => simp [intOf]; omega
    · have hlt' : ¬ (j : Int) < 2 ^ n := by rw [← HNN.out]; omega
      obtain rfl : N = j := by omega
      clear k0 hzr
      obtain ⟨w3, hw3⟩ : ∃ z, z = wr := ⟨_, rfl⟩
      subst hw3
      go_wp2
      go_loopw [20] (fun p wr => ∃ (j : Nat) (vn : Value), j ≤ n ∧ p = .int .i64 j ∧ Hid (RxAt w0 wr (w.heap.size + 1) (.slice ha N hc) vn (upTo N) (List.replicate j 0))) (fun p _ => n - (intOf p).toNat)
      case atStart => exact ⟨0, _, Nat.zero_le _, rfl, HR⟩
      case round =>
        obtain ⟨j, vn, hj, rfl, HR⟩ := hrel
        obtain ⟨ga, gc, hvn⟩ := own_slice' HR.out.nx
        rw [List.length_replicate] at hvn
        subst hvn
        have k1 := HR.out.box.cell 1
        simp only [List.getElem?_toArray, List.getElem?_cons_succ, List.getElem?_cons_zero] at k1
        have hzr := HR.out.below.size
        by_cases hlt : j < n
        · have hal : Below wr.heap.size wr (wr.alloc (.cells #[.int .i64 0] 3)) := (Below.refl _ wr).alloc (Nat.le_refl _) _
          have HRa := Lib.hid (HR.out.up hal)
          have HOw : Hid ((wr.alloc (.cells #[.int .i64 0] 3)).ownsRow w0.heap.size 3 1 (.slice ga j gc) j ((List.replicate j (0 : Int)).map (Value.int .i64))) := Lib.hid (by
            have := HRa.out.nx
            unfold NumO at this
            rwa [List.length_replicate] at this)
          clear hal
          go_wp2_with (at_builtin; (refine wpList_append_sz rfl (.tmp 23) (.tmp 24) 28 rfl w0.heap.size 3 i1 (.int .i64 0) 1 8 Tryz.underlying28 hi1 hz10 hz11 hz12 rfl (by decide) (.slice ga j gc) rfl j _ HOw.out (some ⟨wr.heap.size, 0, none⟩) 1 1 rfl [.int .i64 0] (fun h => by cases h) rfl (one_src _ _ _) (by simp [Value.oneCell']) (by unfold maxLen; omega) (by omega) (by simp; omega) ?_); intro v2 wB hB hgB hatB; refine Hid.out ?_)
          have hN2' : NumO wB w0.heap.size v2 (List.replicate (j + 1) 0) := by
            unfold NumO
            rw [List.length_replicate, List.replicate_succ', List.map_append]
            exact hB
          obtain ⟨xa, xc, rfl⟩ := own_slice' hB
          have kw := HRa.out.box.grown hgB (own_whole HRa.out.nx HRa.out.box (by decide))
          have m1 := kw.cell 1
          have m2 := kw.frozen 1
          have m3 := kw.lt
          simp only [List.getElem?_toArray, List.getElem?_cons_succ, List.getElem?_cons_zero] at m1
          have HNx := Lib.hid (HRa.out.more hgB hN2' hatB)
          clear hB hgB hatB hN2' kw
          refine Lib.hid ?_
          go_wp2
          go_roundw
          case rel => exact ⟨j + 1, _, by omega, by go_num, HNx⟩
          case measure => simp [intOf]; omega
        · obtain rfl : n = j := by omega
          have k0 := HR.out.box.cell 0
          have hres := HRes0.out.below HR.out.below HRes0.out.lt
          have b0 := hres.cell 0
          have b1 := hres.cell 1
          have f0 := hres.frozen 0
          have f1 := hres.frozen 1
          have hl := hres.lt
          have hl2 := HR.out.box.lt
          simp only [List.getElem?_toArray, List.getElem?_cons_succ, List.getElem?_cons_zero] at k0 b0 b1
          have HRs := Lib.hid hres
          have HBr := Lib.hid (HB0.out.trans (HR.out.below.mono (by have := HZ0.out; omega)))
          have hbw : w.heap.size ≤ wr.heap.size := by omega
          have HN1 := Lib.hid (own_low HR.out.acc (show w.heap.size ≤ w0.heap.size by have := HZ0.out; omega))
          have HN2 := Lib.hid (own_low HR.out.nx (show w.heap.size ≤ w0.heap.size by have := HZ0.out; omega))
          clear hres
          go_wp2
          go_region_law (first
            | (refine step_append_sz rfl (.const (.slice none 0 0)) (.tmp 28) 22 (by rfl) w.heap.size 9 i0 (.string ⟨#[]⟩) 1 16 Tryz.underlying22 hi hz0 hz1 hz2 rfl (by decide) (.slice none 0 0) (by rfl) 0 [] (World.ownsRow_nil _ _ _ _) a n c (by rfl) (acts.map Value.string) HNil.out HL.out (strs_src (HA.out.below (by first | exact HBr.out.drew | exact (HBr.out.alloc (by simp; omega) _).drew | exact HBr.out.drew.alloc (by simp; omega) _))) (strs_one _) (by unfold maxLen; omega) (by omega) (by simp; omega) ?_; intro v wA hA hg hat; clear hat; simp only [Nat.zero_add, List.nil_append] at hA; obtain ⟨xA, qA, rfl⟩ := own_slice hA; have hGw : Below wr.heap.size wr wA := (by first | exact (Below.refl _ wr).drew.trans (below_up hg) | exact ((Below.refl _ wr).alloc (Nat.le_refl _) _).drew.trans ((below_up hg).mono (by simp)) | exact ((Below.refl _ wr).drew.alloc (by simp) _).trans ((below_up hg).mono (by simp))); have x0 := up_cell hGw k0; have x1 := up_cell hGw k1; have hrA := HRs.out.below hGw HRs.out.lt; have x2 : wA.cell? ⟨w.heap.size, 0, none⟩ = some (.slice none 0 0) := hrA.cell 0; have x3 : wA.cell? ⟨w.heap.size, 1, none⟩ = some (.slice none 0 0) := hrA.cell 1; have x4 := hrA.frozen 0; have x5 := hrA.frozen 1; have x6 := hrA.lt; have x7 := fun o => cell_new x2 o; have x8 := fun o => cell_new x3 o; have hbA := HBr.out.trans (hGw.mono hbw); have hAa : wA.ownsRow w.heap.size 9 1 (.slice xA n qA) acts.length (acts.map Value.string) := (by rw [HNl.out]; exact hA); have hPA : NumO wA w.heap.size (.slice ha N hc) (upTo N) := NumO.below HN1.out hGw; have hQA : NumO wA w.heap.size (.slice ga n gc) (List.replicate n 0) := NumO.below HN2.out hGw; (try have hL : StesOwn wA w.heap.size (.slice (some ⟨wr.heap.size, 0, none⟩) 1 1) [(upTo N, List.replicate n 0)] := (by first | exact StesOwn.below (show StesOwn (wr.alloc (.cells #[.slice ha N hc, .slice ga n gc] 101)).drew w.heap.size _ _ from lit_state (t := (upTo N, List.replicate n 0)) HN1.out HN2.out hbw) (below_up hg)))))
          all_goals first
            | (obtain ⟨hW, hO, hBf⟩ := fin_b (t := (upTo N, List.replicate n 0)) hAa hL hrA (Nat.le_refl _) hbA
               have g0 := hW.cell 0
               have g1 := hW.cell 1
               simp only [List.getElem?_toArray, List.getElem?_cons_succ, List.getElem?_cons_zero] at g0 g1
               have HF := Lib.hid (show allQ acts = ⟨acts, [(upTo N, List.replicate n 0)]⟩ by unfold allQ; rw [HNl.out, HN.out])
               go_wp2
               exact bodyPost_ret (v := .agg #[.slice xA n qA, .slice (some ⟨wr.heap.size, 0, none⟩) 1 1]) (by simp [results, Tryz.results36, go_sem, g0, g1]) rfl ⟨_, _, rfl, by rw [HF.out]; exact hO, hBf⟩)
            | (obtain ⟨hW, hO, hBf⟩ := fin_a (t := (upTo N, List.replicate n 0)) hAa hPA hQA hrA (Nat.le_refl _) hbA
               have g0 := hW.cell 0
               have g1 := hW.cell 1
               simp only [List.getElem?_toArray, List.getElem?_cons_succ, List.getElem?_cons_zero] at g0 g1
               have HF := Lib.hid (show allQ acts = ⟨acts, [(upTo N, List.replicate n 0)]⟩ by unfold allQ; rw [HNl.out, HN.out])
               go_wp2
               exact bodyPost_ret (v := .agg #[.slice xA n qA, .slice (some ⟨wA.heap.size, 0, none⟩) 1 1]) (by simp [results, Tryz.results36, go_sem, g0, g1]) rfl ⟨_, _, rfl, by rw [HF.out]; exact hO, hBf⟩)
end Go.Proofs.YtpmbijlldoiplaaGreatDoor
/- A specification that a call puts together in a variable of its own, state by state. -/
namespace Go.Proofs.YtpmbijlldoiplaaGreatDoor
open Go.RowKit Pl

/-- the variable at block w2.heap.size holds va and the states ss so far; what lay below stands -/
structure SpcAcc (w2 : World) (va vs : Value) (ss : List Ste) (wr : World) : Prop where
  out : Whole wr w2.heap.size 40 #[va, vs]
  rows : StesOwn wr w2.heap.size vs ss
  mid : Below w2.heap.size w2 wr
theorem SpcAcc.drew {w2 wr : World} {va vs : Value} {ss : List Ste} (h : SpcAcc w2 va vs ss wr) : SpcAcc w2 va vs ss wr.drew := ⟨h.out, h.rows, h.mid.drew⟩
theorem SpcAcc.below {w2 wr wA : World} {va vs : Value} {ss : List Ste} (h : SpcAcc w2 va vs ss wr) (hb : Below wr.heap.size wr wA) : SpcAcc w2 va vs ss wA :=
  ⟨h.out.below hb h.out.lt, h.rows.below hb, h.mid.trans (hb.mono h.mid.size)⟩
theorem SpcAcc.start (w2 : World) (va : Value) : SpcAcc w2 va (.slice none 0 0) [] (w2.alloc (.cells #[va, .slice none 0 0] 40)) :=
  ⟨Whole.new _ _ _, StesOwn.none _ _, (Below.refl _ w2).alloc (Nat.le_refl _) _⟩
theorem SpcAcc.mono_mid {w2 wr : World} {va vs : Value} {ss : List Ste} (h : SpcAcc w2 va vs ss wr) {B C : Nat} (h1 : B ≤ w2.heap.size) (h2 : C < B) : Below C w2 wr := h.mid.mono (by omega)
/-- what is known of the variable behind the append -/
theorem SpcAcc.grown {w2 wA wB : World} {va vs : Value} {ss : List Ste} (h : SpcAcc w2 va vs ss wA) (hg : wA.grownBy wB vs.ownBlock) : Whole wB w2.heap.size 40 #[va, vs] := by
  obtain ⟨rows, r1, r2, r3⟩ := h.rows
  exact h.out.grown hg (own_whole r2 h.out (by decide))
/-- one state more -/
theorem SpcAcc.next {w2 wA wB : World} {va vs p q v2 : Value} {ss : List Ste} {t : Ste} (h : SpcAcc w2 va vs ss wA) (hP : NumO wA w2.heap.size p t.1) (hQ : NumO wA w2.heap.size q t.2) (hg : wA.grownBy wB vs.ownBlock)
    (hB : ∀ rows, wA.ownsRow w2.heap.size 101 2 vs ss.length (rcells rows) → rows.length = ss.length → wB.ownsRow w2.heap.size 101 2 v2 (ss.length + 1) (rcells rows ++ [p, q])) :
    SpcAcc w2 va v2 (ss ++ [t]) (wB.setCell ⟨w2.heap.size, 1, none⟩ v2) := by
  have hw := h.grown hg
  obtain ⟨rows, r1, r2, r3⟩ := h.rows
  have hs := StesOwn.snoc (v' := v2) (t := t) ⟨rows, r1, r2, r3⟩ hP hQ hg hB
  refine ⟨by simpa using hw.set 1 v2, ?_, (h.mid.grown hg h.mid.size (own_ge r2)).setCell (by simp) _⟩
  exact hs.kept (grown_self wB ⟨w2.heap.size, 1, none⟩ v2) (.inr (own_whole hs.choose_spec.2.1 hw (by decide)).symm) (fun r l hr => .inr (own_whole hr hw (by decide)).symm)
end Go.Proofs.YtpmbijlldoiplaaGreatDoor
/- spec.All, spec.None and what they share. -/
namespace Go.Proofs.YtpmbijlldoiplaaGreatDoor
open Go.RowKit Pl

/-- slices.Clone of some names -/
theorem cloneS_any {w : World} {a : Option Addr} {n c : Nat} {acts : List ByteArray} (A : StrArg w a n c acts) (hn : n ≤ 1000000) :
    Calls Tryz.prog 52 #[.slice a n c] w fun e w' => ∃ v', e = .returned v' ∧ w'.ownsRow w.heap.size 9 1 v' n (acts.map Value.string) ∧ Below w.heap.size w w' := by
  have hl := A.len
  cases a with
  | none =>
    obtain ⟨h1, h2⟩ := A.nils rfl
    subst h1
    have e : acts = [] := List.length_eq_zero_iff.1 hl.symm
    subst e
    refine (Tryz.slices_Clone_string_nil 0 c w).mono ?_
    rintro e w' ⟨rfl, rfl⟩
    exact ⟨_, rfl, World.ownsRow_nil _ _ _ _, Below.refl _ _⟩
  | some ad =>
    by_cases h0 : n = 0
    · subst h0
      have e : acts = [] := List.length_eq_zero_iff.1 hl.symm
      subst e
      refine (Tryz.slices_Clone_string_zero ad c w).mono ?_
      rintro e w' ⟨v', rfl, h1, _, h2⟩
      exact ⟨v', rfl, h1, h2⟩
    · obtain ⟨b, off, e, _⟩ := A.cells 0 (by omega)
      cases e
      refine (Tryz.slices_Clone_string b off n c acts w (by omega) (by omega) (fun j hj => by
        obtain ⟨b', off', e', hc⟩ := A.cells j hj
        cases e'
        exact hc)).mono ?_
      rintro e w' ⟨v', rfl, h1, _, h2⟩
      rw [hl, List.take_length, ← hl] at h1
      exact ⟨v', rfl, h1, h2⟩
/-- as fin_a and fin_b, the rows of the state anywhere -/
theorem fin_c {w wA : World} {base R : Nat} {va p q x y : Value} {acts : List ByteArray} {t : Ste} (hbs : base ≤ w.heap.size) (hA : wA.ownsRow base 9 1 va acts.length (acts.map Value.string)) (hP : NumO wA base p t.1) (hQ : NumO wA base q t.2) (hres : Whole wA R 40 #[x, y]) (hR : w.heap.size ≤ R) (hb : Below w.heap.size w wA) :
    Whole (((wA.setCell ⟨R, 0, none⟩ va).setCell ⟨R, 1, none⟩ (.slice (some ⟨wA.heap.size, 0, none⟩) 1 1)).alloc (.cells #[p, q] 101)) R 40 #[va, .slice (some ⟨wA.heap.size, 0, none⟩) 1 1] ∧
    SpcOwn (((wA.setCell ⟨R, 0, none⟩ va).setCell ⟨R, 1, none⟩ (.slice (some ⟨wA.heap.size, 0, none⟩) 1 1)).alloc (.cells #[p, q] 101)) base va (.slice (some ⟨wA.heap.size, 0, none⟩) 1 1) ⟨acts, [t]⟩ ∧
    Below w.heap.size w (((wA.setCell ⟨R, 0, none⟩ va).setCell ⟨R, 1, none⟩ (.slice (some ⟨wA.heap.size, 0, none⟩) 1 1)).alloc (.cells #[p, q] 101)) := by
  have hw1 := hres.set 0 va
  have hw2 := hw1.set 1 (.slice (some ⟨wA.heap.size, 0, none⟩) 1 1)
  have sz : ((wA.setCell ⟨R, 0, none⟩ va).setCell ⟨R, 1, none⟩ (.slice (some ⟨wA.heap.size, 0, none⟩) 1 1)).heap.size = wA.heap.size := by simp
  have hP2 : NumO ((wA.setCell ⟨R, 0, none⟩ va).setCell ⟨R, 1, none⟩ (.slice (some ⟨wA.heap.size, 0, none⟩) 1 1)) base p t.1 := own_stored (own_stored hP hres (by decide)) hw1 (by decide)
  have hQ2 : NumO ((wA.setCell ⟨R, 0, none⟩ va).setCell ⟨R, 1, none⟩ (.slice (some ⟨wA.heap.size, 0, none⟩) 1 1)) base q t.2 := own_stored (own_stored hQ hres (by decide)) hw1 (by decide)
  have hL := lit_state hP2 hQ2 (by rw [sz]; exact Nat.le_trans hbs hb.size)
  rw [sz] at hL
  refine ⟨by simpa using hw2.alloc _, ⟨(own_stored (own_stored hA hres (by decide)) hw1 (by decide)).alloc _, hL⟩, ((hb.setCell (by simpa using hR) _).setCell (by simpa using hR) _).alloc (by rw [sz]; exact hb.size) _⟩
theorem fin_d {w wA : World} {base R : Nat} {va vs x y : Value} {acts : List ByteArray} {t : Ste} (hA : wA.ownsRow base 9 1 va acts.length (acts.map Value.string)) (hL : StesOwn wA base vs [t]) (hres : Whole wA R 40 #[x, y]) (hR : w.heap.size ≤ R) (hb : Below w.heap.size w wA) :
    Whole ((wA.setCell ⟨R, 0, none⟩ va).setCell ⟨R, 1, none⟩ vs) R 40 #[va, vs] ∧ SpcOwn ((wA.setCell ⟨R, 0, none⟩ va).setCell ⟨R, 1, none⟩ vs) base va vs ⟨acts, [t]⟩ ∧ Below w.heap.size w ((wA.setCell ⟨R, 0, none⟩ va).setCell ⟨R, 1, none⟩ vs) :=
  ⟨by simpa using (hres.set 0 va).set 1 vs, spc_stored ⟨hA, hL⟩ hres _ _, (hb.setCell (by simpa using hR) _).setCell (by simpa using hR) _⟩

set_option maxRecDepth 100000 in
set_option maxHeartbeats 4000000 in
theorem single_any {w : World} {base : Nat} {a : Option Addr} {n c : Nat} {acts : List ByteArray} {pa qa : Option Addr} {pn pc qn qc : Nat} {t : Ste} (A : StrArg w a n c acts) (hn : n ≤ 1000000) (hB : base ≤ w.heap.size) (hP : NumO w base (.slice pa pn pc) t.1) (hQ : NumO w base (.slice qa qn qc) t.2) :
    Calls Tryz.prog 94 #[.slice a n c, .agg #[.slice pa pn pc, .slice qa qn qc]] w fun e w' => ∃ va vs, e = .returned (.agg #[va, vs]) ∧ SpcOwn w' base va vs ⟨acts, [t]⟩ ∧ Below w.heap.size w w' := by
  have HA := Lib.hid A
  have HNl : Hid (acts.length = n) := Lib.hid A.len.symm
  have hb0 := ((Below.refl w.heap.size w).alloc (Nat.le_refl _) (.cells #[.slice pa pn pc, .slice qa qn qc] 101)).alloc (by simp) (.cells #[.slice none 0 0, .slice none 0 0] 40)
  have hbox := (Whole.new w 101 #[.slice pa pn pc, .slice qa qn qc]).alloc (.cells #[.slice none 0 0, .slice none 0 0] 40)
  have hres := Whole.new (w.alloc (.cells #[.slice pa pn pc, .slice qa qn qc] 101)) 40 #[.slice none 0 0, .slice none 0 0]
  have hsz : ((w.alloc (.cells #[.slice pa pn pc, .slice qa qn qc] 101)).alloc (.cells #[.slice none 0 0, .slice none 0 0] 40)).heap.size = w.heap.size + 2 := by simp
  simp only [World.size_alloc] at hres
  obtain ⟨wr, HWr⟩ : ∃ z, Hid ((w.alloc (.cells #[.slice pa pn pc, .slice qa qn qc] 101)).alloc (.cells #[.slice none 0 0, .slice none 0 0] 40) = z) := ⟨_, Lib.hid rfl⟩
  rw [HWr.out] at hb0 hbox hres hsz
  have k0 : wr.cell? ⟨w.heap.size, 0, none⟩ = some (.slice pa pn pc) := hbox.cell 0
  have k1 : wr.cell? ⟨w.heap.size, 1, none⟩ = some (.slice qa qn qc) := hbox.cell 1
  have b0 : wr.cell? ⟨w.heap.size + 1, 0, none⟩ = some (.slice none 0 0) := hres.cell 0
  have b1 : wr.cell? ⟨w.heap.size + 1, 1, none⟩ = some (.slice none 0 0) := hres.cell 1
  have f0 := hres.frozen 0
  have f1 := hres.frozen 1
  have hl : w.heap.size + 1 < wr.heap.size := hres.lt
  have HBr := Lib.hid hb0
  have HRs := Lib.hid hres
  have hbw : w.heap.size ≤ wr.heap.size := by omega
  have hbb : base ≤ wr.heap.size := by omega
  have HN1 := Lib.hid (NumO.below hP hb0)
  have HN2 := Lib.hid (NumO.below hQ hb0)
  have HBs := Lib.hid hB
  clear A hP hQ hb0 hbox hres hsz hB
  go_enter Tryz.func94, Tryz.ntmps94
  go_wp2
  rw [HWr.out]
  go_region_law (first
    | (go_simp; refine (cloneS_any (HA.out.below (by first | exact HBr.out.drew | exact (HBr.out.alloc (by simp; omega) _).drew | exact HBr.out.drew.alloc (by simp; omega) _)) hn).mono ?_; rintro e wA ⟨v', rfl, hA, hgA⟩; obtain ⟨xA, qA, rfl⟩ := own_slice' hA; have hGw : Below wr.heap.size wr wA := (by first | exact (Below.refl _ wr).drew.trans hgA | exact ((Below.refl _ wr).alloc (Nat.le_refl _) _).drew.trans (hgA.mono (by simp)) | exact ((Below.refl _ wr).drew.alloc (by simp) _).trans (hgA.mono (by simp))); have x0 := up_cell hGw k0; have x1 := up_cell hGw k1; have hrA := HRs.out.below hGw HRs.out.lt; have x2 : wA.cell? ⟨w.heap.size + 1, 0, none⟩ = some (.slice none 0 0) := hrA.cell 0; have x3 : wA.cell? ⟨w.heap.size + 1, 1, none⟩ = some (.slice none 0 0) := hrA.cell 1; have x4 := hrA.frozen 0; have x5 := hrA.frozen 1; have x6 := hrA.lt; have x7 := fun o => cell_new x2 o; have x8 := fun o => cell_new x3 o; have hbA := HBr.out.trans (hGw.mono hbw); have hAa : wA.ownsRow base 9 1 (.slice xA n qA) acts.length (acts.map Value.string) := (by rw [HNl.out]; exact own_low hA (by simp; omega)); have hPA : NumO wA base (.slice pa pn pc) t.1 := NumO.below HN1.out hGw; have hQA : NumO wA base (.slice qa qn qc) t.2 := NumO.below HN2.out hGw; (try have hL : StesOwn wA base (.slice (some ⟨wr.heap.size, 0, none⟩) 1 1) [t] := (by first | exact StesOwn.below (show StesOwn (wr.alloc (.cells #[.slice pa pn pc, .slice qa qn qc] 101)).drew base _ _ from lit_state HN1.out HN2.out hbb) hgA)); dsimp only))
  all_goals first
    | (obtain ⟨hW, hO, hBf⟩ := fin_d hAa hL hrA (by omega) hbA
       have g0 := hW.cell 0
       have g1 := hW.cell 1
       simp only [List.getElem?_toArray, List.getElem?_cons_succ, List.getElem?_cons_zero] at g0 g1
       go_wp2
       exact bodyPost_ret (v := .agg #[.slice xA n qA, .slice (some ⟨wr.heap.size, 0, none⟩) 1 1]) (by simp [results, Tryz.results94, go_sem, g0, g1]) rfl ⟨_, _, rfl, hO, hBf⟩)
    | (obtain ⟨hW, hO, hBf⟩ := fin_c HBs.out hAa hPA hQA hrA (by omega) hbA
       have g0 := hW.cell 0
       have g1 := hW.cell 1
       simp only [List.getElem?_toArray, List.getElem?_cons_succ, List.getElem?_cons_zero] at g0 g1
       go_wp2
       exact bodyPost_ret (v := .agg #[.slice xA n qA, .slice (some ⟨wA.heap.size, 0, none⟩) 1 1]) (by simp [results, Tryz.results94, go_sem, g0, g1]) rfl ⟨_, _, rfl, hO, hBf⟩)
end Go.Proofs.YtpmbijlldoiplaaGreatDoor
/- spec.All and spec.None. -/
namespace Go.Proofs.YtpmbijlldoiplaaGreatDoor
open Go.RowKit Pl

theorem spcOwn_nil (w : World) (base : Nat) : SpcOwn w base (.slice none 0 0) (.slice none 0 0) noSpc := ⟨World.ownsRow_nil _ _ _ _, StesOwn.none _ _⟩
theorem SpcOwn.slices {w : World} {base : Nat} {va vs : Value} {s : Spc} (h : SpcOwn w base va vs s) : ∃ a1 c1 a2 c2, va = .slice a1 s.acts.length c1 ∧ vs = .slice a2 s.states.length c2 := by
  obtain ⟨a1, c1, h1⟩ := own_slice' h.acts
  obtain ⟨rows, r1, r2, r3⟩ := h.rows
  obtain ⟨a2, c2, h2⟩ := own_slice' r2
  exact ⟨a1, c1, a2, c2, h1, h2⟩
theorem made_zeros (n : Nat) : (madeCells (Value.int .i64 0).cells (n * 1)).toList = (List.replicate n (0 : Int)).map (Value.int .i64) := by
  refine List.ext_getElem (by simp [madeCells]) fun i h1 h2 => ?_
  simp [madeCells, Value.cells, Nat.mod_one]

set_option maxRecDepth 100000 in
set_option maxHeartbeats 4000000 in
theorem All_any {w : World} {a : Option Addr} {n c : Nat} {acts : List ByteArray} {e0 e1 e2 : Addr} (E : Errs w e0 e1 e2) (A : StrArg w a n c acts) :
    Calls Tryz.prog 39 #[.slice a n c] w fun e w' => ∃ va vs, e = .returned (.tuple #[.agg #[va, vs], .int .i64 (if actsB acts then 0 else 10)]) ∧ SpcOwn w' w.heap.size va vs (if actsB acts then allQ acts else noSpc) ∧ Below w.heap.size w w' := by
  obtain ⟨i1, hi1, hz10, hz11, hz12⟩ := info_parts infoNumS
  have HA := Lib.hid A
  have HNl : Hid (acts.length = n) := Lib.hid A.len.symm
  have hb0 := (Below.refl w.heap.size w).alloc (Nat.le_refl _) (.cells #[.slice none 0 0, .slice none 0 0] 40)
  have hres0 := Whole.new w 40 #[.slice none 0 0, .slice none 0 0]
  have hsz0 : (w.alloc (.cells #[.slice none 0 0, .slice none 0 0] 40)).heap.size = w.heap.size + 1 := by simp
  obtain ⟨w0, HW0⟩ : ∃ z, Hid (w.alloc (.cells #[.slice none 0 0, .slice none 0 0] 40) = z) := ⟨_, Lib.hid rfl⟩
  rw [HW0.out] at hb0 hres0 hsz0
  have HCk := Check_any (E.below hb0) (A.below hb0)
  have r0 := hres0.cell 0
  have r1 := hres0.cell 1
  have f0 := hres0.frozen 0
  have f1 := hres0.frozen 1
  have hl := hres0.lt
  simp only [List.getElem?_toArray, List.getElem?_cons_succ, List.getElem?_cons_zero] at r0 r1
  have HB0 := Lib.hid hb0
  have HRes0 := Lib.hid hres0
  have HZ0 := Lib.hid hsz0
  clear hsz0 hb0
  cases hac : actsB acts
  · rw [hac] at HCk
    have HCk := Lib.hid HCk
    have g0 := (hres0.set 0 (.slice none 0 0)).cell 0
    have g1 := ((hres0.set 0 (.slice none 0 0)).set 1 (.slice none 0 0)).cell 1
    simp only [List.setIfInBounds_toArray, List.set_cons_zero, List.set_cons_succ, List.getElem?_toArray, List.getElem?_cons_succ, List.getElem?_cons_zero] at g0 g1
    have HBe := Lib.hid ((HB0.out.setCell (p := ⟨w.heap.size, 0, none⟩) (Nat.le_refl _) (.slice none 0 0)).setCell (p := ⟨w.heap.size, 1, none⟩) (Nat.le_refl _) (.slice none 0 0))
    clear A E hac hres0
    go_enter Tryz.func39, Tryz.ntmps39
    go_wp2_with fail
    rw [HW0.out]
    refine HCk.out.mono ?_
    rintro e w' ⟨rfl, rfl⟩
    go_wp2
    exact bodyPost_ret (v := .tuple #[.agg #[.slice none 0 0, .slice none 0 0], .int .i64 10]) (by simp [results, Tryz.results39, go_sem, g0, g1]) rfl ⟨_, _, rfl, spcOwn_nil _ _, HBe.out⟩
  · rw [hac] at HCk
    have HCk := Lib.hid HCk
    have hn8 : n ≤ 8 := by have := ((actsB_iff acts).1 hac).1; have := A.len; omega
    obtain ⟨p1, p2⟩ := pow_le n (by omega)
    have hN : ((2 ^ n : Nat) : Int) = (2 : Int) ^ n := by norm_cast
    have hN8 : 2 ^ n ≤ 2 ^ 8 := Nat.pow_le_pow_right (by decide) hn8
    obtain ⟨N, HN⟩ : ∃ N : Nat, Hid (2 ^ n = N) := ⟨_, Lib.hid rfl⟩
    rw [HN.out] at hN hN8
    have HNN := Lib.hid hN
    clear A E hac hres0 hN
    go_enter Tryz.func39, Tryz.ntmps39
    go_wp2_with fail
    rw [HW0.out]
    refine HCk.out.mono ?_
    rintro e w' ⟨rfl, rfl⟩
    go_wp2_with (at_make; refine wpList_make_full _ rfl _ _ 28 rfl w0.heap.size 3 i1 (.int .i64 0) 1 Tryz.underlying28 hi1 hz10 hz11 .i64 .i64 n n n rfl rfl rfl rfl (by rw [hz12]; omega) (by unfold maxLen; omega) (Nat.le_refl _) ?_; intro w1 hrow hg1; refine Hid.out ?_)
    rw [made_zeros] at hrow
    have hb1 : Below w0.heap.size w0 w1 := below_up hg1
    have hz1 := hb1.size
    have HXi : Hid (RxAt w0 (w1.alloc (.cells #[.slice none 0 0, .slice (some ⟨w0.heap.size, 0, none⟩) n n] 101)) w1.heap.size (.slice none 0 0) (.slice (some ⟨w0.heap.size, 0, none⟩) n n) [] (List.replicate n 0)) := Lib.hid
      ⟨Whole.new w1 101 #[.slice none 0 0, .slice (some ⟨w0.heap.size, 0, none⟩) n n], World.ownsRow_nil _ _ _ _, by unfold NumO; rw [List.length_replicate]; exact hrow.alloc _, .inl rfl, hz1, hb1.alloc hz1 _⟩
    have HZ1 := Lib.hid hz1
    clear hrow hg1 hb1 r0 r1 f0 f1 hl
    refine Lib.hid ?_
    go_wp2
    go_loopw [5, 17] (fun _ p wr => ∃ (j : Nat) (va : Value), j ≤ N ∧ p = .int .i64 j ∧ Hid (RxAt w0 wr w1.heap.size va (.slice (some ⟨w0.heap.size, 0, none⟩) n n) (upTo j) (List.replicate n 0))) (fun _ p _ => N - (intOf p).toNat)
    case atStart => exact ⟨0, _, Nat.zero_le _, rfl, HXi⟩
    case round =>
      obtain ⟨j, va, hj, rfl, HR⟩ := hrel
      obtain ⟨ha, hc, hva⟩ := own_slice' HR.out.acc
      rw [upTo_len] at hva
      subst hva
      have k0 := HR.out.box.cell 0
      have k1 := HR.out.box.cell 1
      simp only [List.getElem?_toArray, List.getElem?_cons_succ, List.getElem?_cons_zero] at k0 k1
      have hzr := HR.out.below.size
      have hxr := HR.out.box.lt
      by_cases hlt : j < N
      · have hlt' : (j : Int) < 2 ^ n := by rw [← HNN.out]; omega
        have hal : Below wr.heap.size wr (wr.alloc (.cells #[.int .i64 j] 3)) := (Below.refl _ wr).alloc (Nat.le_refl _) _
        have HRa := Lib.hid (HR.out.up hal)
        have HOw : Hid ((wr.alloc (.cells #[.int .i64 j] 3)).ownsRow w0.heap.size 3 1 (.slice ha j hc) j ((upTo j).map (Value.int .i64))) := Lib.hid (by
          have := HRa.out.acc
          unfold NumO at this
          rwa [upTo_len] at this)
        clear hal
        go_wp2_with (at_builtin; (refine wpList_append_sz rfl (.tmp 21) (.tmp 23) 28 rfl w0.heap.size 3 i1 (.int .i64 0) 1 8 Tryz.underlying28 hi1 hz10 hz11 hz12 rfl (by decide) (.slice ha j hc) rfl j _ HOw.out (some ⟨wr.heap.size, 0, none⟩) 1 1 rfl [.int .i64 j] (fun h => by cases h) rfl (one_src _ _ _) (by simp [Value.oneCell']) (by unfold maxLen; omega) (by omega) (by simp; omega) ?_); intro v2 wB hB hgB hatB; refine Hid.out ?_)
        have hN2' : NumO wB w0.heap.size v2 (upTo (j + 1)) := by
          unfold NumO
          rw [upTo_len, upTo_next, List.map_append]
          exact hB
        obtain ⟨xa, xc, rfl⟩ := own_slice' hB
        have kw := HRa.out.box.grown hgB (own_whole HRa.out.acc HRa.out.box (by decide))
        have m1 := kw.cell 0
        have m2 := kw.frozen 0
        have m3 := kw.lt
        simp only [List.getElem?_toArray, List.getElem?_cons_zero] at m1
        have HNx := Lib.hid (HRa.out.push hgB hN2' hatB)
        clear hB hgB hatB hN2' kw
        refine Lib.hid ?_
        go_wp2
        go_roundw
        case rel => exact ⟨j + 1, _, by omega, by go_num, HNx⟩
        case measure => simp [intOf]; omega
      · have hlt' : ¬ (j : Int) < 2 ^ n := by rw [← HNN.out]; omega
        obtain rfl : N = j := by omega
        have hbr := HB0.out.trans (HR.out.below.mono HB0.out.size)
        have HBr := Lib.hid hbr
        have hlow : w.heap.size ≤ w0.heap.size := by have := HZ0.out; omega
        have HSg := Lib.hid (single_any (base := w.heap.size) (t := (upTo N, List.replicate n 0)) (HA.out.below hbr) (by omega) hbr.size (own_low HR.out.acc hlow) (own_low HR.out.nx hlow))
        have HRr := Lib.hid (HRes0.out.below HR.out.below HRes0.out.lt)
        clear hbr
        go_wp2_with fail
        refine HSg.out.mono ?_
        rintro e w5 ⟨va, vs, rfl, hO, hb5⟩
        obtain ⟨a1, c1, a2, c2, rfl, rfl⟩ := hO.slices
        have hrs := HRr.out.below hb5 HRr.out.lt
        have b0 := hrs.cell 0
        have b1 := hrs.cell 1
        have f0 := hrs.frozen 0
        have f1 := hrs.frozen 1
        have hl := hrs.lt
        simp only [List.getElem?_toArray, List.getElem?_cons_succ, List.getElem?_cons_zero] at b0 b1
        obtain ⟨L1, hL1⟩ : ∃ z, acts.length = z := ⟨_, rfl⟩
        have hbT := HBr.out.trans (hb5.mono HBr.out.size)
        have g0 := (hrs.set 0 (.slice a1 acts.length c1)).cell 0
        have g1 := ((hrs.set 0 (.slice a1 acts.length c1)).set 1 (.slice a2 1 c2)).cell 1
        simp only [List.setIfInBounds_toArray, List.set_cons_zero, List.set_cons_succ, List.getElem?_toArray, List.getElem?_cons_succ, List.getElem?_cons_zero] at g0 g1
        have HBe := Lib.hid ((hbT.setCell (p := ⟨w.heap.size, 0, none⟩) (Nat.le_refl _) (.slice a1 acts.length c1)).setCell (p := ⟨w.heap.size, 1, none⟩) (Nat.le_refl _) (.slice a2 1 c2))
        have HOf := Lib.hid (spc_stored hO hrs (.slice a1 acts.length c1) (.slice a2 1 c2))
        have HQ : Hid (allQ acts = ⟨acts, [(upTo N, List.replicate n 0)]⟩) := Lib.hid (by unfold allQ; rw [HNl.out, HN.out])
        simp only [List.length_cons, List.length_nil, Nat.zero_add] at HOf ⊢
        rw [hL1] at g0 g1 HBe HOf
        rw [hL1]
        clear hO hb5 hrs hbT hL1
        go_wp2
        exact bodyPost_ret (v := .tuple #[.agg #[.slice a1 L1 c1, .slice a2 1 c2], .int .i64 0]) (by simp [results, Tryz.results39, go_sem, g0, g1]) rfl ⟨_, _, rfl, by rw [HQ.out]; exact HOf.out, HBe.out⟩

set_option maxRecDepth 100000 in
set_option maxHeartbeats 4000000 in
theorem None_any {w : World} {a : Option Addr} {n c : Nat} {acts : List ByteArray} {e0 e1 e2 : Addr} (E : Errs w e0 e1 e2) (A : StrArg w a n c acts) :
    Calls Tryz.prog 40 #[.slice a n c] w fun e w' => ∃ va vs, e = .returned (.tuple #[.agg #[va, vs], .int .i64 (if actsB acts then 0 else 10)]) ∧ SpcOwn w' w.heap.size va vs (if actsB acts then noneQ acts else noSpc) ∧ Below w.heap.size w w' := by
  have HA := Lib.hid A
  have HNl : Hid (acts.length = n) := Lib.hid A.len.symm
  have hb0 := (Below.refl w.heap.size w).alloc (Nat.le_refl _) (.cells #[.slice none 0 0, .slice none 0 0] 40)
  have hres0 := Whole.new w 40 #[.slice none 0 0, .slice none 0 0]
  have hsz0 : (w.alloc (.cells #[.slice none 0 0, .slice none 0 0] 40)).heap.size = w.heap.size + 1 := by simp
  obtain ⟨w0, HW0⟩ : ∃ z, Hid (w.alloc (.cells #[.slice none 0 0, .slice none 0 0] 40) = z) := ⟨_, Lib.hid rfl⟩
  rw [HW0.out] at hb0 hres0 hsz0
  have HCk := Check_any (E.below hb0) (A.below hb0)
  have r0 := hres0.cell 0
  have r1 := hres0.cell 1
  have f0 := hres0.frozen 0
  have f1 := hres0.frozen 1
  have hl := hres0.lt
  simp only [List.getElem?_toArray, List.getElem?_cons_succ, List.getElem?_cons_zero] at r0 r1
  have HB0 := Lib.hid hb0
  have HRes0 := Lib.hid hres0
  have HZ0 := Lib.hid hsz0
  clear hsz0 hb0
  cases hac : actsB acts
  · rw [hac] at HCk
    have HCk := Lib.hid HCk
    have g0 := (hres0.set 0 (.slice none 0 0)).cell 0
    have g1 := ((hres0.set 0 (.slice none 0 0)).set 1 (.slice none 0 0)).cell 1
    simp only [List.setIfInBounds_toArray, List.set_cons_zero, List.set_cons_succ, List.getElem?_toArray, List.getElem?_cons_succ, List.getElem?_cons_zero] at g0 g1
    have HBe := Lib.hid ((HB0.out.setCell (p := ⟨w.heap.size, 0, none⟩) (Nat.le_refl _) (.slice none 0 0)).setCell (p := ⟨w.heap.size, 1, none⟩) (Nat.le_refl _) (.slice none 0 0))
    clear A E hac hres0
    go_enter Tryz.func40, Tryz.ntmps40
    go_wp2_with fail
    rw [HW0.out]
    refine HCk.out.mono ?_
    rintro e w' ⟨rfl, rfl⟩
    go_wp2
    exact bodyPost_ret (v := .tuple #[.agg #[.slice none 0 0, .slice none 0 0], .int .i64 10]) (by simp [results, Tryz.results40, go_sem, g0, g1]) rfl ⟨_, _, rfl, spcOwn_nil _ _, HBe.out⟩
  · rw [hac] at HCk
    have HCk := Lib.hid HCk
    have hn8 : n ≤ 8 := by have := ((actsB_iff acts).1 hac).1; have := A.len; omega
    have hlt0 : (w0.alloc (.cells #[.int .i64 (-1)] 3)).cell? ⟨w0.heap.size, 0, none⟩ = some (.int .i64 (-1)) := (Whole.new w0 3 #[.int .i64 (-1)]).cell 0
    have HRep := Lib.hid (Repeat_any (c := 1) (n := n) (by omega) hlt0)
    have HBl := Lib.hid ((Below.refl w0.heap.size w0).alloc (Nat.le_refl _) (.cells #[.int .i64 (-1)] 3))
    clear A E hac hres0 hlt0
    go_enter Tryz.func40, Tryz.ntmps40
    go_wp2_with fail
    rw [HW0.out]
    refine HCk.out.mono ?_
    rintro e w' ⟨rfl, rfl⟩
    go_wp2_with fail
    refine HRep.out.mono ?_
    rintro e w3 ⟨rfl, hrow, hb3⟩
    have hb03 := HBl.out.trans (hb3.mono HBl.out.size)
    have hbr := HB0.out.trans (hb03.mono HB0.out.size)
    have HBr := Lib.hid hbr
    have hrN : NumO w3 w.heap.size (.slice (some ⟨(w0.alloc (.cells #[.int .i64 (-1)] 3)).heap.size, 0, none⟩) n n) (List.replicate n (-1)) := by
      unfold NumO
      rw [List.length_replicate]
      exact own_low hrow (by have := HZ0.out; simp; omega)
    have HSg := Lib.hid (single_any (base := w.heap.size) (t := ([], List.replicate n (-1))) (HA.out.below hbr) (by omega) hbr.size (World.ownsRow_nil _ _ _ _) hrN)
    have HRr := Lib.hid (HRes0.out.below hb03 HRes0.out.lt)
    rw [World.size_alloc] at HSg
    clear hbr hrow hb3 hb03 hrN
    go_wp2_with fail
    refine HSg.out.mono ?_
    rintro e w5 ⟨va, vs, rfl, hO, hb5⟩
    obtain ⟨a1, c1, a2, c2, rfl, rfl⟩ := hO.slices
    have hrs := HRr.out.below hb5 HRr.out.lt
    have b0 := hrs.cell 0
    have b1 := hrs.cell 1
    have f0 := hrs.frozen 0
    have f1 := hrs.frozen 1
    have hl := hrs.lt
    simp only [List.getElem?_toArray, List.getElem?_cons_succ, List.getElem?_cons_zero] at b0 b1
    obtain ⟨L1, hL1⟩ : ∃ z, acts.length = z := ⟨_, rfl⟩
    have hbT := HBr.out.trans (hb5.mono HBr.out.size)
    have g0 := (hrs.set 0 (.slice a1 acts.length c1)).cell 0
    have g1 := ((hrs.set 0 (.slice a1 acts.length c1)).set 1 (.slice a2 1 c2)).cell 1
    simp only [List.setIfInBounds_toArray, List.set_cons_zero, List.set_cons_succ, List.getElem?_toArray, List.getElem?_cons_succ, List.getElem?_cons_zero] at g0 g1
    have HBe := Lib.hid ((hbT.setCell (p := ⟨w.heap.size, 0, none⟩) (Nat.le_refl _) (.slice a1 acts.length c1)).setCell (p := ⟨w.heap.size, 1, none⟩) (Nat.le_refl _) (.slice a2 1 c2))
    have HOf := Lib.hid (spc_stored hO hrs (.slice a1 acts.length c1) (.slice a2 1 c2))
    have HQ : Hid (noneQ acts = ⟨acts, [([], List.replicate n (-1))]⟩) := Lib.hid (by unfold noneQ; rw [HNl.out])
    simp only [List.length_cons, List.length_nil, Nat.zero_add] at HOf ⊢
    rw [hL1] at g0 g1 HBe HOf
    rw [hL1]
    clear hO hb5 hrs hbT hL1
    go_wp2
    exact bodyPost_ret (v := .tuple #[.agg #[.slice a1 L1 c1, .slice a2 1 c2], .int .i64 0]) (by simp [results, Tryz.results40, go_sem, g0, g1]) rfl ⟨_, _, rfl, by rw [HQ.out]; exact HOf.out, HBe.out⟩
end Go.Proofs.YtpmbijlldoiplaaGreatDoor
/- The reference's Offer. -/
namespace Go.Proofs.YtpmbijlldoiplaaGreatDoor
open Go.RowKit Pl

set_option maxHeartbeats 1000000 in
/-- the reference's Offer -/
theorem ROffer_any {w : World} {a : Option Addr} {n c : Nat} {b : Option Addr} {k d : Nat} {m : Syst} (A : SysArg w a n c b k d m) (hv : sysB m = true) (x : Nat) (hx : x < m.states.length) :
    Calls Tryz.prog 88 #[.agg #[.slice a n c, .slice b k d], .int .i64 x] w fun e w' => e = .returned (.int .i64 (offN (stAt m.states x))) ∧ Below w.heap.size w w' := by
  have HV := Lib.hid hv
  have HX := Lib.hid hx
  have hb0 := (Below.refl w.heap.size w).alloc (Nat.le_refl _) (.cells #[.slice a n c, .slice b k d] 25)
  obtain ⟨bb, off, rfl, ai, ni, ci, c0, hE⟩ := A.rows x hx
  have c1 := cell_new c0 (.cells #[.slice a n c, .slice (some ⟨bb, off, none⟩) k d] 25)
  have HE := Lib.hid hE
  have hk : k ≤ 140737488355328 := A.big
  have hni : ni ≤ 140737488355328 := by have := hE.cap; have := hE.big; omega
  have hx0 : (0 : Int) ≤ (x : Int) := by omega
  have hx1 : (x : Int) < (k : Int) := by have := A.len; omega
  have hna : m.acts.length ≤ 8 := ((actsB_iff m.acts).1 ((sysB_iff m).1 hv).1).1
  have h8 : Hid (∀ t, t < (stAt m.states x).length → 0 ≤ (edAt (stAt m.states x) t).1 ∧ (edAt (stAt m.states x) t).1 < 8) := Lib.hid fun t ht => by
    have hok : okE m.acts.length m.states.length (edAt (stAt m.states x) t) = true := edge_in (((sysB_iff m).1 hv).2.2.2.1 x hx) (by unfold edAt; rw [List.getD_eq_getElem?_getD, List.getElem?_eq_getElem ht]; exact List.getElem_mem ht)
    have := (okE_iff _ _ _).1 hok
    omega
  have HB0 := Lib.hid hb0
  clear A hv hx hb0 hE c0
  go_enter Tryz.func88, Tryz.ntmps88
  go_wp2
  go_loopw [5, 7, 14] (fun s _ i wr => ∃ t q : Nat, t ≤ ni ∧ i = .int .i64 t ∧ s = .int .i64 q ∧ q < 256 ∧ Hid (q = offN ((stAt m.states x).take t)) ∧ Below w.heap.size w wr) (fun _ _ i _ => ni - (intOf i).toNat)
  case atStart => exact ⟨0, 0, Nat.zero_le _, rfl, rfl, by decide, Lib.hid rfl, HB0.out⟩
  case round =>
    obtain ⟨t, q, ht, rfl, rfl, hq, hqb, hb⟩ := hrel
    by_cases hlt : t < ni
    · obtain ⟨be, oe, rfl, d1, d2⟩ := (HE.out.cells.below hb) t (by have := HE.out.len; omega)
      obtain ⟨h1, h2⟩ := h8.out t (by have := HE.out.len; omega)
      obtain ⟨u, hu⟩ := Int.eq_ofNat_of_zero_le h1
      obtain ⟨x2, hx2⟩ : ∃ x2, x2 = (edAt (stAt m.states x) t).2 := ⟨_, rfl⟩
      rw [← hx2] at d2
      rw [hu] at d1 h2
      obtain ⟨R, HR⟩ : ∃ R : Nat, Hid (R = q ||| 2 ^ u) := ⟨_, Lib.hid rfl⟩
      have hR : R < 256 := by rw [HR.out]; exact Nat.or_lt_two_pow (n := 8) hq (Nat.pow_lt_pow_right (by decide) (by omega))
      have HT : Hid (R = offN ((stAt m.states x).take (t + 1))) := Lib.hid (by rw [offN_take (by have := HE.out.len; omega), hu, ← hqb.out, HR.out]; rfl)
      have HO : Hid (bits .or .i64 (q : Int) (wrap64 (2 ^ u)) = (R : Int)) := Lib.hid (by
        have h2 := pow_le u (by omega)
        have h3 : ((2 ^ u : Nat) : Int) = (2 : Int) ^ u := by norm_cast
        have h4 : 2 ^ u < 256 := Nat.pow_lt_pow_right (n := 8) (by decide) (by omega)
        rw [IntWalk.wrap64_in _ ⟨by omega, by omega⟩, ← h3, HR.out]
        exact i64_or_nat q _ (by omega) (by omega))
      have HB := Lib.hid (hb.alloc hb.size (.cells #[.int .i64 u, .int .i64 x2] 85))
      clear hb h1 hu hx2
      go_wp2
      rw [HO.out]
      go_wp2
      go_roundw
      case rel => exact ⟨t + 1, R, by omega, by go_num, rfl, hR, HT, HB.out⟩
      case measure => simp [intOf]; omega
    · have HF : Hid (q = offN (stAt m.states x)) := Lib.hid (by
        have := hqb.out
        rw [List.take_of_length_le (by have := HE.out.len; omega)] at this
        exact this)
      have HB := Lib.hid hb
      clear hb
      go_wp2
      go_ret
      exact ⟨by rw [HF.out]; rfl, HB.out⟩
end Go.Proofs.YtpmbijlldoiplaaGreatDoor
/- The reference's Of. -/
namespace Go.Proofs.YtpmbijlldoiplaaGreatDoor
open Go.RowKit Pl

theorem setE_off (l : List Edg) : setE l = offN l := rfl
theorem lit_num (W : World) (x : Int) : NumO (W.alloc (.cells #[.int .i64 x] 3)) W.heap.size (.slice (some ⟨W.heap.size, 0, none⟩) 1 1) [x] := by
  have h := World.ownsRow_lit (base := W.heap.size) (e := 3) (size := 1) W #[.int .i64 x] 1 (Nat.le_refl _) (by unfold maxLen; omega) rfl
  exact h
/-- edges of a valid system -/
theorem edge_fit {m : Syst} (hv : sysB m = true) {x : Nat} (hx : x < m.states.length) {y : Nat} (hy : y < (stAt m.states x).length) : 0 ≤ (edAt (stAt m.states x) y).1 ∧ (edAt (stAt m.states x) y).1 < m.acts.length ∧ 0 ≤ (edAt (stAt m.states x) y).2 ∧ (edAt (stAt m.states x) y).2 < m.states.length := by
  have hok : okE m.acts.length m.states.length (edAt (stAt m.states x) y) = true := edge_in (((sysB_iff m).1 hv).2.2.2.1 x hx) (by unfold edAt; rw [List.getD_eq_getElem?_getD, List.getElem?_eq_getElem hy]; exact List.getElem_mem _)
  exact (okE_iff _ _ _).1 hok
theorem off_fit {m : Syst} (hv : sysB m = true) {x : Nat} (hx : x < m.states.length) : offN (stAt m.states x) < 256 := by
  have h := offN_lt (l := stAt m.states x) (fun k hk => by have := edge_fit hv hx hk; have := ((actsB_iff m.acts).1 ((sysB_iff m).1 hv).1).1; omega) (stAt m.states x).length (Nat.le_refl _)
  rwa [List.take_length] at h
/-- the states so far are an int's -/
theorem ofK_fits {m : Syst} (hv : sysB m = true) : ∀ i ss, i ≤ m.states.length → ofK m i = some ss → ss.length = i ∧ ∀ t ∈ ss, Fits t.1 ∧ Fits t.2
  | 0, ss, _, h => by cases h; exact ⟨rfl, fun t ht => by cases ht⟩
  | i + 1, ss, hi, h => by
    unfold ofK at h
    cases h1 : ofK m i with
    | none => rw [h1] at h; cases h
    | some s0 =>
      rw [h1, Option.bind_some] at h
      obtain ⟨h2, h3⟩ := ofK_fits hv i s0 (by omega) h1
      cases h4 : nxE m.acts.length (stAt m.states i) (stAt m.states i).length with
      | none => rw [h4] at h; cases h
      | some nx =>
        rw [h4] at h
        cases h
        obtain ⟨f1, f2⟩ := nxE_fit (ns := m.states.length) (fun k hk => (edge_fit hv (by omega) hk).2.2) _ nx (Nat.le_refl _) h4
        have h8 := ((actsB_iff m.acts).1 ((sysB_iff m).1 hv).1).1
        have h5 := (sysB_iff m).1 hv
        refine ⟨by simp [h2], fun t ht => ?_⟩
        rcases List.mem_append.1 ht with ht | ht
        · exact h3 t ht
        · rw [List.mem_singleton] at ht
          subst ht
          have ho := off_fit hv (x := i) (by omega)
          refine ⟨⟨by simp, fun j hj => ?_⟩, ⟨by simp only; omega, fun j hj => ?_⟩⟩
          · have hj0 : j = 0 := by simpa using hj
            subst hj0
            rw [setE_off]
            simp
            omega
          · simp only at hj ⊢
            have := f2 (nx.getD j 0) (by rw [List.getD_eq_getElem?_getD, List.getElem?_eq_getElem hj]; exact List.getElem_mem _)
            omega

set_option maxRecDepth 100000 in
set_option maxHeartbeats 8000000 in
theorem ROf_any {w : World} {a : Option Addr} {n c : Nat} {b : Option Addr} {k d : Nat} {m : Syst} (A : SysArg w a n c b k d m) (hv : sysB m = true) :
    Calls Tryz.prog 34 #[.agg #[.slice a n c, .slice b k d]] w fun e w' => Below w.heap.size w w' ∧
      ((ofQ m = none ∧ e = .returned (.tuple #[.agg #[.slice none 0 0, .slice none 0 0], .bool false])) ∨
        ∃ s va vs, ofQ m = some s ∧ e = .returned (.tuple #[.agg #[va, vs], .bool true]) ∧ SpcOwn w' w.heap.size va vs s) := by
  obtain ⟨i0, hi, hz0, hz1, hz2⟩ := info_parts infoString
  obtain ⟨i1, hi1, hz10, hz11, hz12⟩ := info_parts infoNumS
  obtain ⟨i2, hi2, hz20, hz21, hz22⟩ := info_parts infoState
  have hsv := (sysB_iff m).1 hv
  have hn8 : n ≤ 8 := by have := ((actsB_iff m.acts).1 hsv.1).1; have := A.acts.len; omega
  have hk5 : k ≤ 5000 := by have := A.len; omega
  have HV := Lib.hid hv
  have HA := Lib.hid A
  have HNl : Hid (m.acts.length = n) := Lib.hid A.acts.len.symm
  have HKl : Hid (m.states.length = k) := Lib.hid A.len.symm
  have HNil := Lib.hid A.acts.nils
  have HL : Hid ((m.acts.map Value.string).length = n * 1) := Lib.hid (by have := A.acts.len; simp; omega)
  have hb0 := ((Below.refl w.heap.size w).alloc (Nat.le_refl _) (.cells #[.slice a n c, .slice b k d] 25)).alloc (by simp) (.cells #[.slice none 0 0, .slice none 0 0] 40)
  have hbox := (Whole.new w 25 #[.slice a n c, .slice b k d]).alloc (.cells #[.slice none 0 0, .slice none 0 0] 40)
  have hres := Whole.new (w.alloc (.cells #[.slice a n c, .slice b k d] 25)) 40 #[.slice none 0 0, .slice none 0 0]
  have hsz0 : ((w.alloc (.cells #[.slice a n c, .slice b k d] 25)).alloc (.cells #[.slice none 0 0, .slice none 0 0] 40)).heap.size = w.heap.size + 2 := by simp
  simp only [World.size_alloc] at hres
  obtain ⟨w0, HW0⟩ : ∃ z, Hid ((w.alloc (.cells #[.slice a n c, .slice b k d] 25)).alloc (.cells #[.slice none 0 0, .slice none 0 0] 40) = z) := ⟨_, Lib.hid rfl⟩
  rw [HW0.out] at hb0 hbox hres hsz0
  have HS := Lib.hid (strs_src (A.acts.below hb0))
  have q0 : w0.cell? ⟨w.heap.size, 0, none⟩ = some (.slice a n c) := hbox.cell 0
  have HB0 := Lib.hid hb0
  have HBox0 := Lib.hid hbox
  have HRes0 := Lib.hid hres
  have HZ0 := Lib.hid hsz0
  clear A hv hsv hb0 hbox hres hsz0
  go_enter Tryz.func34, Tryz.ntmps34
  go_wp2_with (at_builtin; rw [HW0.out]; (refine wpList_append_sz rfl (.const (.slice none 0 0)) (.tmp 11) 22 rfl w.heap.size 9 i0 (.string ⟨#[]⟩) 1 16 Tryz.underlying22 hi hz0 hz1 hz2 rfl (by decide) (.slice none 0 0) rfl 0 [] (World.ownsRow_nil _ _ _ _) a n c rfl (m.acts.map Value.string) HNil.out HL.out HS.out (strs_one _) (by unfold maxLen; omega) (by omega) HB0.out.size ?_); intro va w3 hva hg1 hat1; refine Hid.out ?_)
  simp only [Nat.zero_add, List.nil_append] at hva
  obtain ⟨aa, ca, rfl⟩ := own_slice' hva
  have hb03 : Below w0.heap.size w0 w3 := below_up hg1
  have HB3 := Lib.hid (HB0.out.trans (hb03.mono HB0.out.size))
  have HVa := Lib.hid hva
  have hbox3 := HBox0.out.below hb03 HBox0.out.lt
  have HBox3 := Lib.hid hbox3
  have HRes3 := Lib.hid (HRes0.out.below hb03 HRes0.out.lt)
  have k1 : w3.cell? ⟨w.heap.size, 1, none⟩ = some (.slice b k d) := hbox3.cell 1
  have hz3 : w.heap.size + 2 ≤ w3.heap.size := by have := hb03.size; have := HZ0.out; omega
  have HZ3 := Lib.hid hz3
  have k1' := cell_new k1 (.cells #[.slice aa n ca, .slice none 0 0] 40)
  have HSt := Lib.hid (SpcAcc.start w3 (.slice aa n ca))
  have HO0 : Hid (ofK m 0 = some []) := Lib.hid rfl
  clear hva hg1 hat1 hb03 hbox3
  refine Lib.hid ?_
  go_wp2
  go_loopw [5, 6, 7, 9, 17, 30, 40] (fun _ _ _ _ p _ _ wr => ∃ (i : Nat) (ss : List Ste) (vs : Value), i ≤ k ∧ p = .int .i64 i ∧ Hid (SpcAcc w3 (.slice aa n ca) vs ss wr) ∧ Hid (ofK m i = some ss)) (fun _ _ _ _ p _ _ _ => k - (intOf p).toNat)
  case atStart => exact ⟨0, [], _, Nat.zero_le _, rfl, HSt, HO0⟩
  case round =>
    obtain ⟨w5, hw5⟩ : ∃ z, z = wr := ⟨_, rfl⟩
    subst hw5
    obtain ⟨i, ss, vs, hik, rfl, HC, HO⟩ := hrel
    obtain ⟨rows, R1, R2, R3⟩ := HC.out.rows
    obtain ⟨bb, cc, rfl⟩ := own_slice' R2
    have hss : ss.length = i := (ofK_fits HV.out i ss (by rw [HKl.out]; exact hik) HO.out).1
    rw [hss] at R2 HC
    have HR2o := Lib.hid R2
    have HSs := Lib.hid hss
    clear R1 R2 R3 hss
    by_cases hlt : i < k
    · have hbw5 := HB3.out.trans (HC.out.mid.mono HB3.out.size)
      have HBw5 := Lib.hid hbw5
      have hx : i < m.states.length := by rw [HKl.out]; exact hlt
      have HXi := Lib.hid hx
      obtain ⟨bx, off, rfl, ai, ni, ci, c1, hE⟩ := (HA.out.rows.below hbw5) i hx
      have hbox5 := HBox3.out.below HC.out.mid (by have := HZ3.out; omega)
      have HBox5 := Lib.hid hbox5
      have l0 : w5.cell? ⟨w.heap.size, 0, none⟩ = some (.slice a n c) := hbox5.cell 0
      have l1 : w5.cell? ⟨w.heap.size, 1, none⟩ = some (.slice (some ⟨bx, off, none⟩) k d) := hbox5.cell 1
      have HOf := Lib.hid (ROffer_any (HA.out.below hbw5) HV.out i hx)
      have HE := Lib.hid hE
      have hz5 := HC.out.mid.size
      have hni : ni ≤ 400000 := by
        have h3 := hE.len
        have h4 := total_take m.states i hx
        have h5 := total_take_le m.states (i + 1)
        have := ((sysB_iff m).1 HV.out).2.2.2.2
        omega
      have ho := off_fit HV.out hx
      obtain ⟨o, HOo⟩ : ∃ z, Hid (offN (stAt m.states i) = z) := ⟨_, Lib.hid rfl⟩
      rw [HOo.out] at ho HOf
      clear hbw5 hbox5 hE hx
      go_wp2_with fail
      refine HOf.out.mono ?_
      rintro e w6 ⟨rfl, hb6⟩
      have hz6 := hb6.size
      have HB6 := Lib.hid hb6
      have HC6 := Lib.hid (HC.out.below hb6)
      have HXa : Hid (RxAt w6 ((w6.alloc (.cells #[.int .i64 o] 3)).alloc (.cells #[.slice (some ⟨w6.heap.size, 0, none⟩) 1 1, .slice none 0 0] 101)) (w6.heap.size + 1) (.slice (some ⟨w6.heap.size, 0, none⟩) 1 1) (.slice none 0 0) [(o : Int)] []) := Lib.hid
        ⟨by have := Whole.new (w6.alloc (.cells #[.int .i64 o] 3)) 101 #[.slice (some ⟨w6.heap.size, 0, none⟩) 1 1, .slice none 0 0]; simpa using this, (lit_num w6 o).alloc _, World.ownsRow_nil _ _ _ _, .inr (by simp [Value.ownBlock]), by omega, ((Below.refl _ w6).alloc (Nat.le_refl _) _).alloc (by simp) _⟩
      have l0' := up_cell hb6 l0
      have l00 := cell_new (cell_new l0' (.cells #[.int .i64 o] 3)) (.cells #[.slice (some ⟨w6.heap.size, 0, none⟩) 1 1, .slice none 0 0] 101)
      have HE6 := Lib.hid (HE.out.below hb6)
      clear hb6 l0 l1 c1
      go_wp2
      go_loopw [30] (fun p wr => ∃ (j : Nat) (vn : Value), j ≤ n ∧ p = .int .i64 j ∧ Hid (RxAt w6 wr (w6.heap.size + 1) (.slice (some ⟨w6.heap.size, 0, none⟩) 1 1) vn [(o : Int)] (List.replicate j (-1)))) (fun p _ => n - (intOf p).toNat)
      case atStart => exact ⟨0, _, Nat.zero_le _, rfl, HXa⟩
      case round =>
        obtain ⟨j, vn, hj, rfl, HR⟩ := hrel
        obtain ⟨ga, gc, hvn⟩ := own_slice' HR.out.nx
        rw [List.length_replicate] at hvn
        subst hvn
        have k1 := HR.out.box.cell 1
        simp only [List.getElem?_toArray, List.getElem?_cons_succ, List.getElem?_cons_zero] at k1
        have hzr := HR.out.below.size
        have hXr := HR.out.box.lt
        by_cases hlt2 : j < n
        · have hal : Below wr.heap.size wr (wr.alloc (.cells #[.int .i64 (-1)] 3)) := (Below.refl _ wr).alloc (Nat.le_refl _) _
          have HRa := Lib.hid (HR.out.up hal)
          have HOw : Hid ((wr.alloc (.cells #[.int .i64 (-1)] 3)).ownsRow w6.heap.size 3 1 (.slice ga j gc) j ((List.replicate j (-1 : Int)).map (Value.int .i64))) := Lib.hid (by
            have := HRa.out.nx
            unfold NumO at this
            rwa [List.length_replicate] at this)
          clear hal
          go_wp2_with (at_builtin; (refine wpList_append_sz rfl (.tmp 33) (.tmp 34) 28 rfl w6.heap.size 3 i1 (.int .i64 0) 1 8 Tryz.underlying28 hi1 hz10 hz11 hz12 rfl (by decide) (.slice ga j gc) rfl j _ HOw.out (some ⟨wr.heap.size, 0, none⟩) 1 1 rfl [.int .i64 (-1)] (fun h => by cases h) rfl (one_src _ _ _) (by simp [Value.oneCell']) (by unfold maxLen; omega) (by omega) (by simp; omega) ?_); intro v2 wB hB hgB hatB; refine Hid.out ?_)
          have hN2' : NumO wB w6.heap.size v2 (List.replicate (j + 1) (-1)) := by
            unfold NumO
            rw [List.length_replicate, List.replicate_succ', List.map_append]
            exact hB
          obtain ⟨xa, xc, rfl⟩ := own_slice' hB
          have kw := HRa.out.box.grown hgB (own_whole HRa.out.nx HRa.out.box (by decide))
          have m1 := kw.cell 1
          have m2 := kw.frozen 1
          have m3 := kw.lt
          simp only [List.getElem?_toArray, List.getElem?_cons_succ, List.getElem?_cons_zero] at m1
          have HNx := Lib.hid (HRa.out.more hgB hN2' hatB)
          clear hB hgB hatB hN2' kw
          refine Lib.hid ?_
          go_wp2
          go_roundw
          case rel => exact ⟨j + 1, _, by omega, by go_num, HNx⟩
          case measure => simp [intOf]; omega
        · obtain rfl : n = j := by omega
          have HN0 : Hid (nxE n (stAt m.states i) 0 = some (List.replicate n (-1))) := Lib.hid rfl
          clear k1 hzr hXr
          obtain ⟨w7, hw7⟩ : ∃ z, z = wr := ⟨_, rfl⟩
          subst hw7
          go_wp2
          go_loopw [9, 40] (fun _ p wr => ∃ (y : Nat) (nx : List Int), y ≤ ni ∧ p = .int .i64 y ∧ Hid (RxAt w6 wr (w6.heap.size + 1) (.slice (some ⟨w6.heap.size, 0, none⟩) 1 1) (.slice ga n gc) [(o : Int)] nx) ∧ Hid (nxE n (stAt m.states i) y = some nx)) (fun _ p _ => ni - (intOf p).toNat)
          case atStart => exact ⟨0, _, Nat.zero_le _, rfl, HR, HN0⟩
          case round =>
            obtain ⟨y, nx, hy, rfl, HR, HN⟩ := hrel
            have k0 := HR.out.box.cell 0
            have k1 := HR.out.box.cell 1
            simp only [List.getElem?_toArray, List.getElem?_cons_succ, List.getElem?_cons_zero] at k0 k1
            have hzr := HR.out.below.size
            have hXr := HR.out.box.lt
            have HFt := Lib.hid (nxE_fit (ns := m.states.length) (fun q hq => (edge_fit HV.out HXi.out hq).2.2) y nx (by have := HE.out.len; omega) HN.out)
            by_cases hlt3 : y < ni
            · have hyl : y < (stAt m.states i).length := by have := HE.out.len; omega
              have hef := edge_fit HV.out HXi.out hyl
              obtain ⟨be, oe, rfl, d1, d2⟩ := (HE6.out.cells.below HR.out.below) y hyl
              obtain ⟨u, hu⟩ := Int.eq_ofNat_of_zero_le hef.1
              obtain ⟨v, hvv⟩ := Int.eq_ofNat_of_zero_le hef.2.2.1
              have hun : u < n := by have := hef.2.1; rw [HNl.out] at this; omega
              rw [hu] at d1
              rw [hvv] at d2
              have hal : Below wr.heap.size wr (wr.alloc (.cells #[.int .i64 u, .int .i64 v] 85)) := (Below.refl _ wr).alloc (Nat.le_refl _) _
              have HRa := Lib.hid (HR.out.up hal)
              obtain ⟨g, rfl, e1, e2, e3⟩ := HRa.out.put HFt.out.1 u hun v
              have k0a := HRa.out.box.cell 0
              have k1a := HRa.out.box.cell 1
              simp only [List.getElem?_toArray, List.getElem?_cons_succ, List.getElem?_cons_zero] at k0a k1a
              obtain ⟨X, HX⟩ : ∃ z, Hid (nx.getD u 0 = z) := ⟨_, Lib.hid rfl⟩
              rw [HX.out] at e1
              have hXb : -1 ≤ X := by
                rw [← HX.out]
                exact (HFt.out.2 _ (by rw [List.getD_eq_getElem?_getD, List.getElem?_eq_getElem (by rw [HFt.out.1]; exact hun)]; exact List.getElem_mem _)).1
              have hu0 : (0 : Int) ≤ (u : Int) := by omega
              have hu1 : (u : Int) < (n : Int) := by omega
              by_cases hX : X = -1
              · have hq : ¬ (0 : Int) ≤ X := by omega
                have HN2 : Hid (nxE n (stAt m.states i) (y + 1) = some (nx.set u v)) := Lib.hid (by
                  have := nxE_go HN.out (by rw [hu, Int.toNat_natCast, HX.out]; exact hX)
                  rw [hu, hvv, Int.toNat_natCast] at this
                  exact this)
                have HNx := Lib.hid e3
                have kk := e3.box.cell 1
                clear hal e3 hef hyl hX kk hu hvv
                go_wp2
                go_roundw
                case rel => exact ⟨y + 1, _, by omega, by go_num, HNx, HN2⟩
                case measure => simp [intOf]; omega
              · have hq : (0 : Int) ≤ X := by omega
                have HNo : Hid (ofQ m = none) := Lib.hid (ofQ_stop HO.out HXi.out (j := y + 1) (by omega) (by
                  rw [HNl.out]
                  exact nxE_stop HN.out (by rw [hu, Int.toNat_natCast, HX.out]; exact hX)))
                have hbT := ((HB3.out.trans (HC6.out.mid.mono HB3.out.size)).trans ((HR.out.below.trans (hal.mono HR.out.below.size)).mono (by have := HB6.out.size; have := HC.out.mid.size; have := HZ3.out; omega)))
                have hrs := HRes3.out.below (HC6.out.mid.trans ((HR.out.below.trans (hal.mono HR.out.below.size)).mono HC6.out.mid.size)) (by have := HZ3.out; omega)
                have b0 := hrs.cell 0
                have b1 := hrs.cell 1
                have f0 := hrs.frozen 0
                have f1 := hrs.frozen 1
                have hl := hrs.lt
                simp only [List.getElem?_toArray, List.getElem?_cons_succ, List.getElem?_cons_zero] at b0 b1
                have g0 := (hrs.set 0 (.slice none 0 0)).cell 0
                have g1 := ((hrs.set 0 (.slice none 0 0)).set 1 (.slice none 0 0)).cell 1
                simp only [List.setIfInBounds_toArray, List.set_cons_zero, List.set_cons_succ, List.getElem?_toArray, List.getElem?_cons_succ, List.getElem?_cons_zero] at g0 g1
                have HBe := Lib.hid ((hbT.setCell (p := ⟨w.heap.size + 1, 0, none⟩) (by simp) (.slice none 0 0)).setCell (p := ⟨w.heap.size + 1, 1, none⟩) (by simp) (.slice none 0 0))
                clear hal hbT hrs e3 hef hyl hX hu hvv
                go_wp2
                exact bodyPost_ret (v := .tuple #[.agg #[.slice none 0 0, .slice none 0 0], .bool false]) (by simp [results, Tryz.results34, go_sem, g0, g1]) rfl ⟨HBe.out, .inl ⟨HNo.out, rfl⟩⟩
            · have hyn : y = (stAt m.states i).length := by have := HE.out.len; omega
              have HG : Hid (ofK m (i + 1) = some (ss ++ [([(o : Int)], nx)])) := Lib.hid (by
                have := ofK_go HO.out (nx := nx) (by rw [HNl.out, ← hyn]; exact HN.out)
                rw [setE_off, HOo.out] at this
                exact this)
              have hCr := HC6.out.below HR.out.below
              have z1 := hCr.out.cell 1
              have z2 := hCr.out.frozen 1
              have z3 := hCr.out.lt
              simp only [List.getElem?_toArray, List.getElem?_cons_succ, List.getElem?_cons_zero] at z1
              have hal : Below wr.heap.size wr (wr.alloc (.cells #[.slice (some ⟨w6.heap.size, 0, none⟩) 1 1, .slice ga n gc] 101)) := (Below.refl _ wr).alloc (Nat.le_refl _) _
              have HAA := Lib.hid (hCr.below hal)
              have HOW := Lib.hid ((own_up' (own_up' HR2o.out HB6.out) HR.out.below).alloc (.cells #[.slice (some ⟨w6.heap.size, 0, none⟩) 1 1, .slice ga n gc] 101))
              have hlow : w3.heap.size ≤ w6.heap.size := by have := HB6.out.size; have := HC.out.mid.size; omega
              have hxl : nx.length = n := HFt.out.1
              have HP : Hid (NumO (wr.alloc (.cells #[.slice (some ⟨w6.heap.size, 0, none⟩) 1 1, .slice ga n gc] 101)) w3.heap.size (.slice (some ⟨w6.heap.size, 0, none⟩) 1 1) [(o : Int)]) := Lib.hid (own_low (HR.out.acc.alloc _) hlow)
              have HQ : Hid (NumO (wr.alloc (.cells #[.slice (some ⟨w6.heap.size, 0, none⟩) 1 1, .slice ga n gc] 101)) w3.heap.size (.slice ga n gc) nx) := Lib.hid (own_low (HR.out.nx.alloc _) hlow)
              clear hCr hal hyn hxl
              go_wp2_with (at_builtin; (refine wpList_append_sz rfl (.tmp 61) (.tmp 63) 38 rfl w3.heap.size 101 i2 (.agg #[.slice none 0 0, .slice none 0 0]) 2 48 Tryz.underlying38 hi2 hz20 hz21 hz22 rfl (by decide) (.slice bb i cc) rfl i (rcells rows) HOW.out (some ⟨wr.heap.size, 0, none⟩) 1 1 rfl [.slice (some ⟨w6.heap.size, 0, none⟩) 1 1, .slice ga n gc] (fun h => by cases h) rfl (pair_src wr _ _ _) (by simp [Value.oneCell']) (by unfold maxLen; omega) (by omega) (by simp; omega) ?_); intro v2 wB hB hgB hatB; refine Hid.out ?_)
              obtain ⟨vb, vd, rfl⟩ := own_slice' hB
              have kw := HAA.out.grown hgB
              have m1 := kw.cell 1
              have m2 := kw.frozen 1
              have m3 := kw.lt
              simp only [List.getElem?_toArray, List.getElem?_cons_succ, List.getElem?_cons_zero] at m1
              have HNx := Lib.hid (HAA.out.next (v2 := .slice vb (i + 1) vd) (t := ([(o : Int)], nx)) HP.out HQ.out hgB (fun rows' e1 e2 => by
                rw [HSs.out] at e1 ⊢
                rw [own_eq e1 HOW.out]; exact hB))
              clear hB hgB hatB kw
              refine Lib.hid ?_
              go_wp2
              go_roundw
              case rel => exact ⟨i + 1, _, _, by omega, by go_num, HNx, HG⟩
              case measure => simp [intOf]; omega
    · have hik2 : i = k := by omega
      subst hik2
      have HF : Hid (ofQ m = some ⟨m.acts, ss⟩) := Lib.hid (ofQ_end (by rw [HKl.out]; exact HO.out))
      have z0 := HC.out.out.cell 0
      have z1 := HC.out.out.cell 1
      have hrs := HRes3.out.below HC.out.mid (by have := HZ3.out; omega)
      have b0 := hrs.cell 0
      have b1 := hrs.cell 1
      have f0 := hrs.frozen 0
      have f1 := hrs.frozen 1
      have hl := hrs.lt
      have hz5 := HC.out.out.lt
      simp only [List.getElem?_toArray, List.getElem?_cons_succ, List.getElem?_cons_zero] at b0 b1 z0 z1
      have g0 := (hrs.set 0 (.slice aa n ca)).cell 0
      have g1 := ((hrs.set 0 (.slice aa n ca)).set 1 (.slice bb i cc)).cell 1
      simp only [List.setIfInBounds_toArray, List.set_cons_zero, List.set_cons_succ, List.getElem?_toArray, List.getElem?_cons_succ, List.getElem?_cons_zero] at g0 g1
      have hbT := HB3.out.trans (HC.out.mid.mono HB3.out.size)
      have HBe := Lib.hid ((hbT.setCell (p := ⟨w.heap.size + 1, 0, none⟩) (by simp) (.slice aa n ca)).setCell (p := ⟨w.heap.size + 1, 1, none⟩) (by simp) (.slice bb i cc))
      have hO : SpcOwn w5 w.heap.size (.slice aa n ca) (.slice bb i cc) ⟨m.acts, ss⟩ := ⟨by have := own_up' HVa.out HC.out.mid; rw [← HNl.out] at this ⊢; exact this, HC.out.rows.low (by have := HZ3.out; omega)⟩
      have HOw := Lib.hid (spc_stored hO hrs (.slice aa n ca) (.slice bb i cc))
      clear hrs hbT hO
      go_wp2
      exact bodyPost_ret (v := .tuple #[.agg #[.slice aa n ca, .slice bb i cc], .bool true]) (by simp [results, Tryz.results34, go_sem, g0, g1]) rfl ⟨HBe.out, .inr ⟨_, _, _, HF.out, rfl, HOw.out⟩⟩
end Go.Proofs.YtpmbijlldoiplaaGreatDoor
/- spec.Of. -/
namespace Go.Proofs.YtpmbijlldoiplaaGreatDoor
open Go.RowKit Pl

/-- what Of answers -/
def ofV (m : Syst) : Spc × Bool × Int := if sysB m = true then (if 500 < m.states.length then (noSpc, false, 2) else match ofQ m with | none => (noSpc, false, 0) | some s => (s, true, 0)) else (noSpc, false, 20)
theorem ofV_bad {m : Syst} (h : sysB m = false) : ofV m = (noSpc, false, 20) := by unfold ofV; rw [if_neg (by rw [h]; decide)]
theorem ofV_large {m : Syst} (h : sysB m = true) (hl : 500 < m.states.length) : ofV m = (noSpc, false, 2) := by unfold ofV; rw [if_pos h, if_pos hl]
theorem ofV_none {m : Syst} (h : sysB m = true) (hl : ¬ 500 < m.states.length) (hq : ofQ m = none) : ofV m = (noSpc, false, 0) := by unfold ofV; rw [if_pos h, if_neg hl, hq]
theorem ofV_some {m : Syst} (h : sysB m = true) (hl : ¬ 500 < m.states.length) {s : Spc} (hq : ofQ m = some s) : ofV m = (s, true, 0) := by unfold ofV; rw [if_pos h, if_neg hl, hq]

set_option maxRecDepth 100000 in
set_option maxHeartbeats 8000000 in
theorem Of_any {w : World} {a : Option Addr} {n c : Nat} {b : Option Addr} {k d : Nat} {m : Syst} {e0 e1 e2 : Addr} (E : Errs w e0 e1 e2) (A : SysArg w a n c b k d m) :
    Calls Tryz.prog 38 #[.agg #[.slice a n c, .slice b k d]] w fun e w' => ∃ va vs, e = .returned (.tuple #[.agg #[va, vs], .bool (ofV m).2.1, .int .i64 (ofV m).2.2]) ∧ SpcOwn w' w.heap.size va vs (ofV m).1 ∧ Below w.heap.size w w' := by
  obtain ⟨i2, hi2, hz20, hz21, hz22⟩ := info_parts infoState
  have hb0 := ((Below.refl w.heap.size w).alloc (Nat.le_refl _) (.cells #[.slice a n c, .slice b k d] 25)).alloc (by simp) (.cells #[.slice none 0 0, .slice none 0 0] 40)
  have hbox := (Whole.new w 25 #[.slice a n c, .slice b k d]).alloc (.cells #[.slice none 0 0, .slice none 0 0] 40)
  have hres := Whole.new (w.alloc (.cells #[.slice a n c, .slice b k d] 25)) 40 #[.slice none 0 0, .slice none 0 0]
  have hsz0 : ((w.alloc (.cells #[.slice a n c, .slice b k d] 25)).alloc (.cells #[.slice none 0 0, .slice none 0 0] 40)).heap.size = w.heap.size + 2 := by simp
  simp only [World.size_alloc] at hres
  obtain ⟨w0, HW0⟩ : ∃ z, Hid ((w.alloc (.cells #[.slice a n c, .slice b k d] 25)).alloc (.cells #[.slice none 0 0, .slice none 0 0] 40) = z) := ⟨_, Lib.hid rfl⟩
  rw [HW0.out] at hb0 hbox hres hsz0
  have HCk := Lib.hid (SCheck_any (E.below hb0) (A.below hb0))
  have HA := Lib.hid A
  have hkb : k ≤ 140737488355328 := A.big
  have HB0 := Lib.hid hb0
  have HBox0 := Lib.hid hbox
  have HRes0 := Lib.hid hres
  have HZ0 := Lib.hid hsz0
  have HKl : Hid (m.states.length = k) := Lib.hid A.len.symm
  have HNl : Hid (m.acts.length = n) := Lib.hid A.acts.len.symm
  clear A E hb0 hbox hres hsz0
  go_enter Tryz.func38, Tryz.ntmps38
  go_wp2_with fail
  rw [HW0.out]
  refine HCk.out.mono ?_
  rintro e w1 ⟨rfl, hb1⟩
  have hbox1 := HBox0.out.below hb1 HBox0.out.lt
  have hres1 := HRes0.out.below hb1 HRes0.out.lt
  have HBox1 := Lib.hid hbox1
  have HRes1 := Lib.hid hres1
  have HB1 := Lib.hid (HB0.out.trans (hb1.mono HB0.out.size))
  have hz1 : w.heap.size + 2 ≤ w1.heap.size := by have := hb1.size; have := HZ0.out; omega
  have HZ1 := Lib.hid hz1
  have k0 : w1.cell? ⟨w.heap.size, 0, none⟩ = some (.slice a n c) := hbox1.cell 0
  have k1 : w1.cell? ⟨w.heap.size, 1, none⟩ = some (.slice b k d) := hbox1.cell 1
  have b0 := hres1.cell 0
  have b1 := hres1.cell 1
  have f0 := hres1.frozen 0
  have f1 := hres1.frozen 1
  have hl := hres1.lt
  simp only [List.getElem?_toArray, List.getElem?_cons_succ, List.getElem?_cons_zero] at b0 b1
  have g0 := (hres1.set 0 (.slice none 0 0)).cell 0
  have g1 := ((hres1.set 0 (.slice none 0 0)).set 1 (.slice none 0 0)).cell 1
  simp only [List.setIfInBounds_toArray, List.set_cons_zero, List.set_cons_succ, List.getElem?_toArray, List.getElem?_cons_succ, List.getElem?_cons_zero] at g0 g1
  have HBe := Lib.hid ((HB1.out.setCell (p := ⟨w.heap.size + 1, 0, none⟩) (by simp) (.slice none 0 0)).setCell (p := ⟨w.heap.size + 1, 1, none⟩) (by simp) (.slice none 0 0))
  clear hb1 hbox1 hres1
  cases hv : sysB m
  · rw [chk_no hv]
    have HV := Lib.hid (ofV_bad hv)
    clear hv
    go_wp2
    exact bodyPost_ret (v := .tuple #[.agg #[.slice none 0 0, .slice none 0 0], .bool false, .int .i64 20]) (by simp [results, Tryz.results38, go_sem, g0, g1]) rfl ⟨_, _, by rw [HV.out], by rw [HV.out]; exact spcOwn_nil _ _, HBe.out⟩
  · rw [chk_yes hv]
    by_cases hk5 : 500 < k
    · have HV := Lib.hid (ofV_large hv (by rw [HKl.out]; exact hk5))
      clear hv
      go_wp2
      exact bodyPost_ret (v := .tuple #[.agg #[.slice none 0 0, .slice none 0 0], .bool false, .int .i64 2]) (by simp [results, Tryz.results38, go_sem, g0, g1]) rfl ⟨_, _, by rw [HV.out], by rw [HV.out]; exact spcOwn_nil _ _, HBe.out⟩
    · have hsv := (sysB_iff m).1 hv
      have hn8 : n ≤ 8 := by have := ((actsB_iff m.acts).1 hsv.1).1; rw [HNl.out] at this; exact this
      have HV := Lib.hid hv
      have HK5 : Hid (¬ 500 < m.states.length) := Lib.hid (by rw [HKl.out]; exact hk5)
      have HCl := Lib.hid (cloneS_any (HA.out.acts.below HB1.out) (by omega))
      clear hv hsv g0 g1 b0 b1 f0 f1
      go_wp2_with fail
      refine HCl.out.mono ?_
      rintro e w3 ⟨va, rfl, hva, hb3⟩
      obtain ⟨aa, ca, rfl⟩ := own_slice' hva
      have HB3 := Lib.hid (HB1.out.trans (hb3.mono HB1.out.size))
      have HVa := Lib.hid (own_low hva (show w.heap.size ≤ w1.heap.size by omega))
      have hbox3 := HBox1.out.below hb3 HBox1.out.lt
      have HBox3 := Lib.hid hbox3
      have HRes3 := Lib.hid (HRes1.out.below hb3 HRes1.out.lt)
      have k31 : w3.cell? ⟨w.heap.size, 1, none⟩ = some (.slice b k d) := hbox3.cell 1
      have hz3 : w.heap.size + 2 ≤ w3.heap.size := by have := hb3.size; omega
      have HZ3 := Lib.hid hz3
      have k31' := cell_new k31 (.cells #[.slice aa n ca, .slice none 0 0] 40)
      have HSt := Lib.hid (SpcAcc.start w3 (.slice aa n ca))
      have HO0 : Hid (ofK m 0 = some []) := Lib.hid rfl
      clear hva hb3 hbox3
      go_wp2
      go_loopw [7, 8, 10, 27, 38] (fun _ _ _ p _ wr => ∃ (i : Nat) (ss : List Ste) (vs : Value), i ≤ k ∧ p = .int .i64 i ∧ Hid (SpcAcc w3 (.slice aa n ca) vs ss wr) ∧ Hid (ofK m i = some ss)) (fun _ _ _ p _ _ => k - (intOf p).toNat)
      case atStart => exact ⟨0, [], _, Nat.zero_le _, rfl, HSt, HO0⟩
      case round =>
        obtain ⟨w5, hw5⟩ : ∃ z, z = wr := ⟨_, rfl⟩
        subst hw5
        obtain ⟨i, ss, vs, hik, rfl, HC, HO⟩ := hrel
        obtain ⟨rows, R1, R2, R3⟩ := HC.out.rows
        obtain ⟨bb, cc, rfl⟩ := own_slice' R2
        have hss : ss.length = i := (ofK_fits HV.out i ss (by rw [HKl.out]; exact hik) HO.out).1
        rw [hss] at R2 HC
        have HR2o := Lib.hid R2
        have HSs := Lib.hid hss
        clear R1 R2 R3 hss
        by_cases hlt : i < k
        · have hbw5 := HB3.out.trans (HC.out.mid.mono HB3.out.size)
          have hx : i < m.states.length := by rw [HKl.out]; exact hlt
          have HXi := Lib.hid hx
          obtain ⟨bx, off, rfl, ai, ni, ci, c1, hE⟩ := (HA.out.rows.below hbw5) i hx
          have hbox5 := HBox3.out.below HC.out.mid (by have := HZ3.out; omega)
          have l0 : w5.cell? ⟨w.heap.size, 0, none⟩ = some (.slice a n c) := hbox5.cell 0
          have l00 := cell_new l0 (.cells #[.int .i64 (-1)] 3)
          have HE := Lib.hid hE
          have hz5 := HC.out.mid.size
          have hni : ni ≤ 400000 := by
            have h3 := hE.len
            have h4 := total_take m.states i hx
            have h5 := total_take_le m.states (i + 1)
            have := ((sysB_iff m).1 HV.out).2.2.2.2
            omega
          have ho := off_fit HV.out hx
          obtain ⟨o, HOo⟩ : ∃ z, Hid (offN (stAt m.states i) = z) := ⟨_, Lib.hid rfl⟩
          rw [HOo.out] at ho
          have hlt0 : (w5.alloc (.cells #[.int .i64 (-1)] 3)).cell? ⟨w5.heap.size, 0, none⟩ = some (.int .i64 (-1)) := (Whole.new w5 3 #[.int .i64 (-1)]).cell 0
          have HRep := Lib.hid (Repeat_any (c := 1) (n := n) (by omega) hlt0)
          rw [World.size_alloc] at HRep
          have HBl := Lib.hid ((Below.refl w5.heap.size w5).alloc (Nat.le_refl _) (.cells #[.int .i64 (-1)] 3))
          clear hbw5 hbox5 hE hx hlt0
          go_wp2_with fail
          refine HRep.out.mono ?_
          rintro e w6 ⟨rfl, hrow, hb6'⟩
          have hb6 := HBl.out.trans ((by simpa using hb6' : Below (w5.heap.size + 1) (w5.alloc (.cells #[.int .i64 (-1)] 3)) w6).mono (by omega))
          have hz6 := hb6.size
          have HC6 := Lib.hid (HC.out.below hb6)
          have HB6 := Lib.hid hb6
          have HE6 := Lib.hid (HE.out.below hb6)
          have hn0 : NumO w6 w3.heap.size (.slice (some ⟨w5.heap.size + 1, 0, none⟩) n n) (List.replicate n (-1)) := by
            unfold NumO
            rw [List.length_replicate]
            exact own_low hrow (by omega)
          have HN0 := Lib.hid hn0
          have HX0 : Hid (nxE n (stAt m.states i) 0 = some (List.replicate n (-1))) := Lib.hid rfl
          clear hrow hb6 hb6' hn0 l0 l00 c1
          obtain ⟨g, HG0⟩ : ∃ z, Hid (w5.heap.size + 1 = z) := ⟨_, Lib.hid rfl⟩
          rw [HG0.out] at HN0
          rw [HG0.out]
          go_wp2
          go_loopw [10, 38] (fun _ p wr => ∃ (y : Nat) (nx : List Int), y ≤ ni ∧ p = .int .i64 y ∧ Hid (NumO wr w3.heap.size (.slice (some ⟨g, 0, none⟩) n n) nx) ∧ Hid (Below w5.heap.size w5 wr) ∧ Hid (nxE n (stAt m.states i) y = some nx)) (fun _ p _ => ni - (intOf p).toNat)
          case atStart => exact ⟨0, _, Nat.zero_le _, rfl, HN0, HB6, HX0⟩
          case round =>
            obtain ⟨y, nx, hy, rfl, HR, Hb5, HN⟩ := hrel
            have hzr := Hb5.out.size
            have HFt := Lib.hid (nxE_fit (ns := m.states.length) (fun q hq => (edge_fit HV.out HXi.out hq).2.2) y nx (by have := HE.out.len; omega) HN.out)
            have HRn : Hid (wr.ownsRow w3.heap.size 3 1 (.slice (some ⟨g, 0, none⟩) n n) n (nx.map (Value.int .i64))) := Lib.hid (by
              have := HR.out
              unfold NumO at this
              rwa [HFt.out.1] at this)
            by_cases hlt3 : y < ni
            · have hyl : y < (stAt m.states i).length := by have := HE.out.len; omega
              have hef := edge_fit HV.out HXi.out hyl
              obtain ⟨be, oe, rfl, d1, d2⟩ := (HE.out.cells.below Hb5.out) y hyl
              obtain ⟨u, hu⟩ := Int.eq_ofNat_of_zero_le hef.1
              obtain ⟨v, hvv⟩ := Int.eq_ofNat_of_zero_le hef.2.2.1
              have hun : u < n := by have := hef.2.1; rw [HNl.out] at this; omega
              rw [hu] at d1
              rw [hvv] at d2
              have hal : Below wr.heap.size wr (wr.alloc (.cells #[.int .i64 u, .int .i64 v] 85)) := (Below.refl _ wr).alloc (Nat.le_refl _) _
              have HRa := Lib.hid (HRn.out.alloc (.cells #[.int .i64 u, .int .i64 v] 85))
              have e1 := HRa.out.cellAt u (by omega)
              have e2 := HRa.out.frozenAt u
              have e3 := (World.ownsRow.stored HRa.out u (.int .i64 v)).1
              have elm : ((nx.map (Value.int .i64)).set u (.int .i64 v)) = (nx.set u (v : Int)).map (Value.int .i64) := by rw [List.map_set]
              rw [elm] at e3
              obtain ⟨X, HX⟩ : ∃ z, Hid (nx.getD u 0 = z) := ⟨_, Lib.hid rfl⟩
              have hnl : u < nx.length := by rw [HFt.out.1]; exact hun
              have e1' : (wr.alloc (.cells #[.int .i64 u, .int .i64 v] 85)).cell? ⟨g, u, none⟩ = some (.int .i64 X) := by
                rw [e1, List.getElem?_map, List.getElem?_eq_getElem hnl, ← HX.out, List.getD_eq_getElem?_getD, List.getElem?_eq_getElem hnl]
                rfl
              have hu0 : (0 : Int) ≤ (u : Int) := by omega
              have hu1 : (u : Int) < (n : Int) := by omega
              by_cases hX : X = -1
              · have hq : (X != -1) = false := by rw [hX]; rfl
                have HN2 : Hid (nxE n (stAt m.states i) (y + 1) = some (nx.set u v)) := Lib.hid (by
                  have := nxE_go HN.out (by rw [hu, Int.toNat_natCast, HX.out]; exact hX)
                  rw [hu, hvv, Int.toNat_natCast] at this
                  exact this)
                have HNx : Hid (NumO ((wr.alloc (.cells #[.int .i64 u, .int .i64 v] 85)).setCell ⟨g, u, none⟩ (.int .i64 v)) w3.heap.size (.slice (some ⟨g, 0, none⟩) n n) (nx.set u v)) := Lib.hid (by
                  unfold NumO
                  rw [List.length_set, HFt.out.1]
                  exact e3)
                have HBx := Lib.hid ((Hb5.out.alloc hzr (.cells #[.int .i64 u, .int .i64 v] 85)).setCell (p := ⟨g, u, none⟩) (by rw [← HG0.out]; simp) (.int .i64 v))
                clear hal e1 e3 hef hyl hX hu hvv elm hnl
                go_wp2
                go_roundw
                case rel => exact ⟨y + 1, _, by omega, by go_num, HNx, HBx, HN2⟩
                case measure => simp [intOf]; omega
              · have hq : (X != -1) = true := by rw [bne_iff_ne]; exact hX
                have HNo : Hid (ofQ m = none) := Lib.hid (ofQ_stop HO.out HXi.out (j := y + 1) (by omega) (by
                  rw [HNl.out]
                  exact nxE_stop HN.out (by rw [hu, Int.toNat_natCast, HX.out]; exact hX)))
                have HVn := Lib.hid (ofV_none HV.out HK5.out HNo.out)
                have hb5w := Hb5.out.alloc hzr (.cells #[.int .i64 u, .int .i64 v] 85)
                have hbT := (HB3.out.trans (HC.out.mid.mono HB3.out.size)).trans (hb5w.mono (by have := HC.out.mid.size; have := HZ3.out; omega))
                have hrs := HRes3.out.below (HC.out.mid.trans (hb5w.mono HC.out.mid.size)) (by have := HZ3.out; omega)
                have b0 := hrs.cell 0
                have b1 := hrs.cell 1
                have f0 := hrs.frozen 0
                have f1 := hrs.frozen 1
                have hl := hrs.lt
                simp only [List.getElem?_toArray, List.getElem?_cons_succ, List.getElem?_cons_zero] at b0 b1
                have g0 := (hrs.set 0 (.slice none 0 0)).cell 0
                have g1 := ((hrs.set 0 (.slice none 0 0)).set 1 (.slice none 0 0)).cell 1
                simp only [List.setIfInBounds_toArray, List.set_cons_zero, List.set_cons_succ, List.getElem?_toArray, List.getElem?_cons_succ, List.getElem?_cons_zero] at g0 g1
                have HBe2 := Lib.hid ((hbT.setCell (p := ⟨w.heap.size + 1, 0, none⟩) (by simp) (.slice none 0 0)).setCell (p := ⟨w.heap.size + 1, 1, none⟩) (by simp) (.slice none 0 0))
                clear hal hbT hrs e1 e3 hef hyl hX hu hvv elm hnl hb5w
                go_wp2
                exact bodyPost_ret (v := .tuple #[.agg #[.slice none 0 0, .slice none 0 0], .bool false, .int .i64 0]) (by simp [results, Tryz.results38, go_sem, g0, g1]) rfl ⟨_, _, by rw [HVn.out], by rw [HVn.out]; exact spcOwn_nil _ _, HBe2.out⟩
            · have hyn : y = (stAt m.states i).length := by have := HE.out.len; omega
              have HGo : Hid (ofK m (i + 1) = some (ss ++ [([(o : Int)], nx)])) := Lib.hid (by
                have := ofK_go HO.out (nx := nx) (by rw [HNl.out, ← hyn]; exact HN.out)
                rw [setE_off, HOo.out] at this
                exact this)
              have hCr := HC.out.below Hb5.out
              have z1 := hCr.out.cell 1
              have z3 := hCr.out.lt
              simp only [List.getElem?_toArray, List.getElem?_cons_succ, List.getElem?_cons_zero] at z1
              have HCr := Lib.hid hCr
              have HRw := Lib.hid (own_up' HR2o.out Hb5.out)
              have hlow : w3.heap.size ≤ wr.heap.size := by omega
              have HOff : Hid (∀ W, Below wr.heap.size wr W → Calls Tryz.prog 92 #[.slice ai ni ci] W fun e w' => e = .returned (.int .i64 o) ∧ Below W.heap.size W w') := Lib.hid fun W hb => by
                have h1 := offered_any ((HE.out.below Hb5.out).below hb) (fun q hq => by have := edge_fit HV.out HXi.out hq; have := ((actsB_iff m.acts).1 ((sysB_iff m).1 HV.out).1).1; omega)
                rw [HOo.out] at h1
                exact h1
              clear hCr hyn
              go_wp2
              go_region_law (first
                | (refine step_append_sz rfl (.tmp 57) (.tmp 63) 38 (by rfl) w3.heap.size 101 i2 (.agg #[.slice none 0 0, .slice none 0 0]) 2 48 Tryz.underlying38 hi2 hz20 hz21 hz22 rfl (by decide) (.slice bb i cc) (by rfl) i (rcells rows) (((own_up' HRw.out hG).alloc _).alloc _) (some ⟨wO.heap.size + 1, 0, none⟩) 1 1 (by rfl) [.slice (some ⟨wO.heap.size, 0, none⟩) 1 1, .slice (some ⟨g, 0, none⟩) n n] (fun h => by cases h) rfl (by have := pair_src (wO.alloc (.cells #[.int .i64 o] 3)) (.slice (some ⟨wO.heap.size, 0, none⟩) 1 1) (.slice (some ⟨g, 0, none⟩) n n) 101; simpa using this) (by simp [Value.oneCell']) (by unfold maxLen; omega) (by omega) (by have := hG.size; simp; omega) ?_; intro v2 wB hB hgB hatB; clear hatB; obtain ⟨vb, vd, rfl⟩ := own_slice' hB; have kW := (((HCr.out.below hG).below ((Below.refl _ wO).alloc (Nat.le_refl _) (.cells #[.int .i64 o] 3))).below ((Below.refl _ (wO.alloc (.cells #[.int .i64 o] 3))).alloc (Nat.le_refl _) (.cells #[.slice (some ⟨wO.heap.size, 0, none⟩) 1 1, .slice (some ⟨g, 0, none⟩) n n] 101))).grown hgB; have k7 := kW.cell 1; have k8 := kW.frozen 1; have k9 := kW.lt; simp only [List.getElem?_toArray, List.getElem?_cons_succ, List.getElem?_cons_zero] at k7)
                | (go_simp; refine (HOff.out _ (Below.refl _ wr).drew).mono ?_; rintro e wO ⟨rfl, hbO⟩; have hG := below_two (Below.refl wr.heap.size wr).drew hbO; have u2O := up_cell hG z1; have u2P := cell_new u2O (.cells #[.int .i64 o] 3); have u2Q := cell_new u2P (.cells #[.slice (some ⟨wO.heap.size, 0, none⟩) 1 1, .slice (some ⟨g, 0, none⟩) n n] 101); dsimp only))
              all_goals
                have hsO := hG.size
                have HNx := Lib.hid ((((HCr.out.below hG).below ((Below.refl _ wO).alloc (Nat.le_refl _) (.cells #[.int .i64 o] 3))).below ((Below.refl _ (wO.alloc (.cells #[.int .i64 o] 3))).alloc (Nat.le_refl _) (.cells #[.slice (some ⟨wO.heap.size, 0, none⟩) 1 1, .slice (some ⟨g, 0, none⟩) n n] 101))).next (v2 := .slice vb (i + 1) vd) (t := ([(o : Int)], nx)) (own_low ((lit_num wO o).alloc _) (by omega)) (((HR.out.below hG).alloc _).alloc _) hgB (fun rows' e1 e2 => by
                  rw [HSs.out] at e1 ⊢
                  rw [own_eq e1 (((own_up' HRw.out hG).alloc _).alloc _)]; exact hB))
                clear hB hgB hG hbO k7 k8 k9 kW u2O u2P u2Q
                go_wp2
                go_roundw
                case rel => exact ⟨i + 1, _, _, by omega, by go_num, HNx, HGo⟩
                case measure => simp [intOf]; omega
        · have hik2 : i = k := by omega
          subst hik2
          have HF : Hid (ofQ m = some ⟨m.acts, ss⟩) := Lib.hid (ofQ_end (by rw [HKl.out]; exact HO.out))
          have HVs := Lib.hid (ofV_some HV.out HK5.out HF.out)
          have z0 := HC.out.out.cell 0
          have z1 := HC.out.out.cell 1
          have hrs := HRes3.out.below HC.out.mid (by have := HZ3.out; omega)
          have b0 := hrs.cell 0
          have b1 := hrs.cell 1
          have f0 := hrs.frozen 0
          have f1 := hrs.frozen 1
          have hl := hrs.lt
          have hz5 := HC.out.out.lt
          simp only [List.getElem?_toArray, List.getElem?_cons_succ, List.getElem?_cons_zero] at b0 b1 z0 z1
          have g0 := (hrs.set 0 (.slice aa n ca)).cell 0
          have g1 := ((hrs.set 0 (.slice aa n ca)).set 1 (.slice bb i cc)).cell 1
          simp only [List.setIfInBounds_toArray, List.set_cons_zero, List.set_cons_succ, List.getElem?_toArray, List.getElem?_cons_succ, List.getElem?_cons_zero] at g0 g1
          have hbT := HB3.out.trans (HC.out.mid.mono HB3.out.size)
          have HBe2 := Lib.hid ((hbT.setCell (p := ⟨w.heap.size + 1, 0, none⟩) (by simp) (.slice aa n ca)).setCell (p := ⟨w.heap.size + 1, 1, none⟩) (by simp) (.slice bb i cc))
          have hO : SpcOwn w5 w.heap.size (.slice aa n ca) (.slice bb i cc) ⟨m.acts, ss⟩ := ⟨by have := own_up' HVa.out HC.out.mid; rw [← HNl.out] at this ⊢; exact this, HC.out.rows.low (by have := HZ3.out; omega)⟩
          have HOw := Lib.hid (spc_stored hO hrs (.slice aa n ca) (.slice bb i cc))
          clear hrs hbT hO
          go_wp2
          exact bodyPost_ret (v := .tuple #[.agg #[.slice aa n ca, .slice bb i cc], .bool true, .int .i64 0]) (by simp [results, Tryz.results38, go_sem, g0, g1]) rfl ⟨_, _, by rw [HVs.out], by rw [HVs.out]; exact HOw.out, HBe2.out⟩
end Go.Proofs.YtpmbijlldoiplaaGreatDoor
/- Of, All and None, and the reference's, as arguments of another call. -/
namespace Go.Proofs.YtpmbijlldoiplaaGreatDoor
open Go.RowKit Pl

/-- a specification that another call may take -/
structure Good (s : Spc) : Prop where
  acts : s.acts.length ≤ 8
  states : s.states.length ≤ 500
  fits : ∀ i, i < s.states.length → Fits (teAt s.states i).1 ∧ Fits (teAt s.states i).2
  sz : ∀ k, k < s.acts.length → (at_ s.acts k).size ≤ 9223372036854775807
theorem good_no : Good noSpc := ⟨by simp [noSpc], by simp [noSpc], fun i hi => by simp [noSpc] at hi, fun k hk => by simp [noSpc] at hk⟩
theorem acts_sz {acts : List ByteArray} (ha : actsB acts = true) : ∀ k, k < acts.length → (at_ acts k).size ≤ 9223372036854775807 := fun k hk => by
  have := nm_len ha hk
  rw [Lib.size_eq]
  omega
theorem one_fits {l : List Int} (h : ∀ x ∈ l, -1 ≤ x ∧ x ≤ 1000) (hl : l.length ≤ 1000) : Fits l := ⟨by omega, fun j hj => by
  have := h (l.getD j 0) (by rw [List.getD_eq_getElem?_getD, List.getElem?_eq_getElem hj]; exact List.getElem_mem hj)
  omega⟩
theorem good_all {acts : List ByteArray} (ha : actsB acts = true) : Good (allQ acts) := by
  have h8 := ((actsB_iff acts).1 ha).1
  have hN8 : 2 ^ acts.length ≤ 2 ^ 8 := Nat.pow_le_pow_right (by decide) h8
  refine ⟨h8, by simp [allQ], fun i hi => ?_, acts_sz ha⟩
  have hi0 : i = 0 := by simpa [allQ] using hi
  subst hi0
  have e : teAt (allQ acts).states 0 = (upTo (2 ^ acts.length), List.replicate acts.length 0) := rfl
  rw [e]
  refine ⟨one_fits (fun x hx => ?_) (by rw [upTo_len]; omega), one_fits (fun x hx => ?_) (by rw [List.length_replicate]; omega)⟩
  · obtain ⟨j, hj, rfl⟩ := List.mem_map.1 hx
    rw [List.mem_range] at hj
    omega
  · have := List.eq_of_mem_replicate hx
    omega
theorem good_none {acts : List ByteArray} (ha : actsB acts = true) : Good (noneQ acts) := by
  have h8 := ((actsB_iff acts).1 ha).1
  refine ⟨h8, by simp [noneQ], fun i hi => ?_, acts_sz ha⟩
  have hi0 : i = 0 := by simpa [noneQ] using hi
  subst hi0
  have e : teAt (noneQ acts).states 0 = ([], List.replicate acts.length (-1)) := rfl
  rw [e]
  refine ⟨one_fits (fun x hx => by cases hx) (by simp), one_fits (fun x hx => ?_) (by rw [List.length_replicate]; omega)⟩
  have := List.eq_of_mem_replicate hx
  omega
theorem good_of {m : Syst} {s : Spc} (hv : sysB m = true) (hl : ¬ 500 < m.states.length) (h : ofQ m = some s) : Good s := by
  unfold ofQ at h
  cases hk : ofK m m.states.length with
  | none => rw [hk] at h; cases h
  | some ss =>
    rw [hk] at h
    cases h
    obtain ⟨h1, h2⟩ := ofK_fits hv _ ss (Nat.le_refl _) hk
    have ha := ((sysB_iff m).1 hv).1
    refine ⟨((actsB_iff m.acts).1 ha).1, by show ss.length ≤ 500; omega, fun i hi => ?_, acts_sz ha⟩
    have hi' : i < ss.length := hi
    have e : teAt ss i = ss[i] := by unfold teAt; rw [List.getD_eq_getElem?_getD, List.getElem?_eq_getElem hi']; rfl
    show Fits (teAt ss i).1 ∧ Fits (teAt ss i).2
    rw [e]
    exact h2 _ (List.getElem_mem hi')
theorem good_ofV (m : Syst) : Good (ofV m).1 := by
  cases hv : sysB m
  · rw [ofV_bad hv]; exact good_no
  · by_cases hl : 500 < m.states.length
    · rw [ofV_large hv hl]; exact good_no
    · cases hq : ofQ m with
      | none => rw [ofV_none hv hl hq]; exact good_no
      | some s => rw [ofV_some hv hl hq]; exact good_of hv hl hq
theorem Good.arg {W : World} {base : Nat} {va vs : Value} {s : Spc} (g : Good s) (h : SpcOwn W base va vs s) : ∃ a n c b k d, va = .slice a n c ∧ vs = .slice b k d ∧ SpecArg W a n c b k d s := by
  have g1 := g.acts
  have g2 := g.states
  obtain ⟨a, c, b, d, h1, h2, h3⟩ := h.arg (by omega) (by omega) g.fits g.sz
  exact ⟨a, _, c, b, _, d, h1, h2, h3⟩

theorem OfA_any {w : World} {a : Option Addr} {n c : Nat} {b : Option Addr} {k d : Nat} {m : Syst} {e0 e1 e2 : Addr} (E : Errs w e0 e1 e2) (A : SysArg w a n c b k d m) :
    Calls Tryz.prog 38 #[.agg #[.slice a n c, .slice b k d]] w fun e w' => ∃ a2 n2 c2 b2 k2 d2, e = .returned (.tuple #[.agg #[.slice a2 n2 c2, .slice b2 k2 d2], .bool (ofV m).2.1, .int .i64 (ofV m).2.2]) ∧ SpecArg w' a2 n2 c2 b2 k2 d2 (ofV m).1 ∧ Below w.heap.size w w' := by
  refine (Of_any E A).mono ?_
  rintro e w' ⟨va, vs, rfl, hO, hb⟩
  obtain ⟨a2, n2, c2, b2, k2, d2, rfl, rfl, hA⟩ := (good_ofV m).arg hO
  exact ⟨a2, n2, c2, b2, k2, d2, rfl, hA, hb⟩
theorem Good.arg2 {W : World} {base : Nat} {a b : Option Addr} {n c k d : Nat} {s : Spc} (g : Good s) (h : SpcOwn W base (.slice a n c) (.slice b k d) s) : SpecArg W a n c b k d s := by
  obtain ⟨a', n', c', b', k', d', h1, h2, h3⟩ := g.arg h
  cases h1
  cases h2
  exact h3
theorem SpcOwn.zero {W : World} {base : Nat} {va vs : Value} {s : Spc} (h : SpcOwn W base va vs s) : SpcOwn W 0 va vs s := ⟨own_low h.acts (Nat.zero_le _), h.rows.low (Nat.zero_le _)⟩
theorem SpcOwn.below {W W' : World} {base : Nat} {va vs : Value} {s : Spc} (h : SpcOwn W base va vs s) (hb : Below W.heap.size W W') : SpcOwn W' base va vs s := ⟨own_up' h.acts hb, h.rows.below hb⟩
theorem SpcOwn.open {W : World} {base : Nat} {va vs : Value} {s : Spc} (h : SpcOwn W base va vs s) : ∃ a n c b k d, va = .slice a n c ∧ vs = .slice b k d := by
  obtain ⟨a1, c1, a2, c2, h1, h2⟩ := h.slices
  exact ⟨a1, _, c1, a2, _, c2, h1, h2⟩
/-- two variables stored into, one behind the other -/
theorem spc_two {W : World} {base R1 R2 : Nat} {va vs x y x' y' : Value} {s : Spc} (h : SpcOwn W base va vs s) (h1 : Whole W R1 40 #[x, y]) (h2 : Whole W R2 40 #[x', y']) (hne : R2 ≠ R1) (u v u' v' : Value) :
    SpcOwn ((((W.setCell ⟨R1, 0, none⟩ u).setCell ⟨R1, 1, none⟩ v).setCell ⟨R2, 0, none⟩ u').setCell ⟨R2, 1, none⟩ v') base va vs s :=
  spc_stored (spc_stored h h1 u v) ((h2.far (by simpa using hne) u).far (by simpa using hne) v) u' v'
theorem whole_two {W : World} {R1 R2 : Nat} {x y x' y' : Value} (h1 : Whole W R1 40 #[x, y]) (h2 : Whole W R2 40 #[x', y']) (hne : R2 ≠ R1) (u v u' v' : Value) :
    Whole ((((W.setCell ⟨R1, 0, none⟩ u).setCell ⟨R1, 1, none⟩ v).setCell ⟨R2, 0, none⟩ u').setCell ⟨R2, 1, none⟩ v') R1 40 #[u, v] ∧ Whole ((((W.setCell ⟨R1, 0, none⟩ u).setCell ⟨R1, 1, none⟩ v).setCell ⟨R2, 0, none⟩ u').setCell ⟨R2, 1, none⟩ v') R2 40 #[u', v'] := by
  constructor
  · have := (((h1.set 0 u).set 1 v).far (p := ⟨R2, 0, none⟩) (by simpa using fun e => hne e.symm) u').far (p := ⟨R2, 1, none⟩) (by simpa using fun e => hne e.symm) v'
    simpa using this
  · have := (((h2.far (p := ⟨R1, 0, none⟩) (by simpa using hne) u).far (p := ⟨R1, 1, none⟩) (by simpa using hne) v).set 0 u').set 1 v'
    simpa using this
theorem whole_far {W : World} {R R1 R2 : Nat} {t : TypeId} {cs : Array Value} (h : Whole W R t cs) (h1 : R ≠ R1) (h2 : R ≠ R2) (u v u' v' : Value) :
    Whole ((((W.setCell ⟨R1, 0, none⟩ u).setCell ⟨R1, 1, none⟩ v).setCell ⟨R2, 0, none⟩ u').setCell ⟨R2, 1, none⟩ v') R t cs :=
  (((h.far (by simpa using h1) u).far (by simpa using h1) v).far (by simpa using h2) u').far (by simpa using h2) v'
theorem cells_two {W : World} {R : Nat} {t : TypeId} {x y : Value} (h : Whole W R t #[x, y]) : W.cell? ⟨R, 0, none⟩ = some x ∧ W.cell? ⟨R, 1, none⟩ = some y ∧ W.frozen? ⟨R, 0, none⟩ = false ∧ W.frozen? ⟨R, 1, none⟩ = false ∧ R < W.heap.size := ⟨h.cell 0, h.cell 1, h.frozen 0, h.frozen 1, h.lt⟩
theorem ROfO_any {w : World} {a : Option Addr} {n c : Nat} {b : Option Addr} {k d : Nat} {m : Syst} (A : SysArg w a n c b k d m) (hv : sysB m = true) (hl : ¬ 500 < m.states.length) :
    Calls Tryz.prog 34 #[.agg #[.slice a n c, .slice b k d]] w fun e w' => ∃ a2 n2 c2 b2 k2 d2, e = .returned (.tuple #[.agg #[.slice a2 n2 c2, .slice b2 k2 d2], .bool (ofV m).2.1]) ∧ SpcOwn w' 0 (.slice a2 n2 c2) (.slice b2 k2 d2) (ofV m).1 ∧ Below w.heap.size w w' := by
  refine (ROf_any A hv).mono ?_
  rintro e w' ⟨hb, ⟨hq, rfl⟩ | ⟨s, va, vs, hq, rfl, hO⟩⟩
  · rw [ofV_none hv hl hq]
    exact ⟨_, _, _, _, _, _, rfl, spcOwn_nil _ _, hb⟩
  · rw [ofV_some hv hl hq]
    obtain ⟨a2, n2, c2, b2, k2, d2, rfl, rfl⟩ := hO.open
    exact ⟨_, _, _, _, _, _, rfl, hO.zero, hb⟩
def allV (acts : List ByteArray) : Spc := if actsB acts then allQ acts else noSpc
def noneV (acts : List ByteArray) : Spc := if actsB acts then noneQ acts else noSpc
theorem AllA_any {w : World} {a : Option Addr} {n c : Nat} {acts : List ByteArray} {e0 e1 e2 : Addr} (E : Errs w e0 e1 e2) (A : StrArg w a n c acts) :
    Calls Tryz.prog 39 #[.slice a n c] w fun e w' => ∃ a2 n2 c2 b2 k2 d2, e = .returned (.tuple #[.agg #[.slice a2 n2 c2, .slice b2 k2 d2], .int .i64 (if actsB acts then 0 else 10)]) ∧ SpecArg w' a2 n2 c2 b2 k2 d2 (allV acts) ∧ Below w.heap.size w w' := by
  refine (All_any E A).mono ?_
  rintro e w' ⟨va, vs, rfl, hO, hb⟩
  have hG : Good (allV acts) := by
    unfold allV
    cases h : actsB acts
    · exact good_no
    · exact good_all h
  obtain ⟨a2, n2, c2, b2, k2, d2, rfl, rfl, hA⟩ := hG.arg hO
  exact ⟨a2, n2, c2, b2, k2, d2, rfl, hA, hb⟩
theorem NoneA_any {w : World} {a : Option Addr} {n c : Nat} {acts : List ByteArray} {e0 e1 e2 : Addr} (E : Errs w e0 e1 e2) (A : StrArg w a n c acts) :
    Calls Tryz.prog 40 #[.slice a n c] w fun e w' => ∃ a2 n2 c2 b2 k2 d2, e = .returned (.tuple #[.agg #[.slice a2 n2 c2, .slice b2 k2 d2], .int .i64 (if actsB acts then 0 else 10)]) ∧ SpecArg w' a2 n2 c2 b2 k2 d2 (noneV acts) ∧ Below w.heap.size w w' := by
  refine (None_any E A).mono ?_
  rintro e w' ⟨va, vs, rfl, hO, hb⟩
  have hG : Good (noneV acts) := by
    unfold noneV
    cases h : actsB acts
    · exact good_no
    · exact good_none h
  obtain ⟨a2, n2, c2, b2, k2, d2, rfl, rfl, hA⟩ := hG.arg hO
  exact ⟨a2, n2, c2, b2, k2, d2, rfl, hA, hb⟩
theorem RAllO_any {w : World} {a : Option Addr} {n c : Nat} {acts : List ByteArray} (A : StrArg w a n c acts) (ha : actsB acts = true) :
    Calls Tryz.prog 36 #[.slice a n c] w fun e w' => ∃ a2 n2 c2 b2 k2 d2, e = .returned (.agg #[.slice a2 n2 c2, .slice b2 k2 d2]) ∧ SpcOwn w' 0 (.slice a2 n2 c2) (.slice b2 k2 d2) (allV acts) ∧ Below w.heap.size w w' := by
  refine (RAll_any A ha).mono ?_
  rintro e w' ⟨va, vs, rfl, hO, hb⟩
  obtain ⟨a2, n2, c2, b2, k2, d2, rfl, rfl⟩ := hO.open
  have e : allV acts = allQ acts := by unfold allV; rw [ha]; rfl
  exact ⟨a2, n2, c2, b2, k2, d2, rfl, by rw [e]; exact hO.zero, hb⟩
theorem RNothingO_any {w : World} {a : Option Addr} {n c : Nat} {acts : List ByteArray} (A : StrArg w a n c acts) (ha : actsB acts = true) :
    Calls Tryz.prog 37 #[.slice a n c] w fun e w' => ∃ a2 n2 c2 b2 k2 d2, e = .returned (.agg #[.slice a2 n2 c2, .slice b2 k2 d2]) ∧ SpcOwn w' 0 (.slice a2 n2 c2) (.slice b2 k2 d2) (noneV acts) ∧ Below w.heap.size w w' := by
  refine (RNothing_any A ha).mono ?_
  rintro e w' ⟨va, vs, rfl, hO, hb⟩
  obtain ⟨a2, n2, c2, b2, k2, d2, rfl, rfl⟩ := hO.open
  have e : noneV acts = noneQ acts := by unfold noneV; rw [ha]; rfl
  exact ⟨a2, n2, c2, b2, k2, d2, rfl, by rw [e]; exact hO.zero, hb⟩
theorem good_allV (acts : List ByteArray) : Good (allV acts) := by
  unfold allV
  cases h : actsB acts
  · exact good_no
  · exact good_all h
theorem good_noneV (acts : List ByteArray) : Good (noneV acts) := by
  unfold noneV
  cases h : actsB acts
  · exact good_no
  · exact good_none h
/-- names in the call's own memory -/
theorem strsOwn_arg {w : World} {base : Nat} {v : Value} {n : Nat} {ss : List ByteArray} (h : w.ownsRow base 9 1 v n (ss.map Value.string)) (hn : n = ss.length) (hbig : n ≤ 9223372036854775807) (hs : ∀ k, k < n → (at_ ss k).size ≤ 9223372036854775807) :
    ∃ a c, v = .slice a n c ∧ StrArg w a n c ss := by
  rcases h.2 with ⟨rfl, rfl⟩ | ⟨g, cap, cur, rfl, hg, hh, hc, hm, hz, ht⟩
  · exact ⟨none, 0, rfl, ⟨fun _ => rfl, hn, Nat.le_refl _, hbig, hs, fun j hj => by omega⟩⟩
  · refine ⟨some ⟨g, 0, none⟩, cap, rfl, ⟨(fun h => by cases h), hn, hc, hbig, hs, fun j hj => ⟨g, 0, rfl, ?_⟩⟩⟩
    have h9 := h.cells (g := g) rfl j (.string (ss.getD j ByteArray.empty)) (by rw [List.getElem?_map, List.getElem?_eq_getElem hj]; simp [List.getD, hj])
    rw [add_plainly] at h9
    rw [Nat.zero_add]
    rw [Nat.zero_add] at h9
    exact h9
end Go.Proofs.YtpmbijlldoiplaaGreatDoor
