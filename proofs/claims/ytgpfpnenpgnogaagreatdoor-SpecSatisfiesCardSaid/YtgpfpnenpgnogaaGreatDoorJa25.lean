/- Texts joined: SatF, SpVal, ShelfV. -/
import Derived.Test.YtgpfpnenpgnogaaGreatDoorJa24
import Derived.BigQuiet
import Derived.Test.YtgpfpnenpgnogaaGreatDoorJa21
import Derived.Test.YtgpfpnenpgnogaaGreatDoorJa01
import Derived.Shelf.Strings.Builder1
import Derived.Shelf.Strings.Builder2
import Derived.Shelf.Strings.OnBuilder
import Derived.Shelf.Small.Wraps
import Derived.Shelf.Strings.BuilderF
import Derived.Shelf.Strings.BuilderK
import Derived.Shelf.Strconv.Atoi
import Derived.Shelf.Strconv.Itoa0
import Derived.Shelf.Strconv.Itoa1
import Derived.Shelf.LaysM
import Derived.Shelf.Strconv.Itoa2
import Derived.Shelf.Strconv.Itoa3
import Derived.Shelf.Strconv.AtoiErrFast
import Derived.Shelf.Strconv.ParseIntEmpty
import Derived.Shelf.Strconv.AtoiFail
import Derived.Shelf.Strconv.Clone
import Derived.Shelf.Strconv.SyntaxError
import Derived.Shelf.LaysC
import Derived.Shelf.Strconv.ToError
import Derived.Shelf.Strconv.Lower
import Derived.Shelf.Strconv.ParseUint10
import Derived.Shelf.Strconv.ParseUint10Empty
import Derived.Shelf.Strconv.ParseUint10Any
import Derived.Shelf.Strconv.ParseInt10
import Derived.Shelf.Strconv.AtoiLong
import Derived.Shelf.Strconv.AtoiInnerAll
import Derived.Shelf.Strconv.RangeError
import Derived.Shelf.Strconv.ToErrorRange
import Derived.Shelf.Strconv.AtoiAll
import Derived.Shelf.Strconv.ErrVarAll
import Derived.Shelf.Strings.Search1
import Derived.Shelf.Strings.Search2
import Derived.Shelf.Strings.Search3
import Derived.Shelf.Strings.Count
import Derived.Shelf.Strings.Shaped
import Derived.Shelf.Strings.Prefix
import Derived.Shelf.Strings.Split
import Derived.Shelf.Bits.Mul64
import Derived.Shelf.Unicode.DecodeSlow
import Derived.Shelf.Slices.Turned
import Derived.Shelf.Slices.Reverse
import Derived.Shelf.Slices.Equal
import Derived.Ground.Names2Prog
import Derived.Shelf.Slices.Clone
import Derived.Shelf.Slices.Cells
import Derived.Shelf.Slices.Empties2
import Derived.Test.YtgpfpnenpgnogaaGreatDoorProg
/- The parts of spec.Satisfies: noPairs, add, fits, follow. -/
namespace Go.Proofs.YtgpfpnenpgnogaaGreatDoor
open Go.RowKit Pl

theorem infoBoolV : (Tryz.prog.info? 4).map (fun i => (i.zero, i.size, i.bytes)) = some (some (.bool false), 1, 1) := by kernel_rfl
theorem infoRowB : (Tryz.prog.info? 74).map (fun i => (i.zero, i.size, i.bytes)) = some (some (.slice none 0 0), 1, 24) := by kernel_rfl
def rowV (b r : Nat) : Value := .slice (some ⟨r, 0, none⟩) b b
/-- a table of marks in the call's own memory -/
structure RelAt (W : World) (B g a b : Nat) (bl : List Nat) (F : Mat) : Prop where
  shp : Shp F a b
  len : bl.length = a
  nod : ∀ x y, x < a → y < a → bl.getD x 0 = bl.getD y 0 → x = y
  outer : W.ownsRow B 74 1 (.slice (some ⟨g, 0, none⟩) a a) a (bl.map (rowV b))
  rows : ∀ x, x < a → W.ownsRow B 4 1 (rowV b (bl.getD x 0)) b ((F.getD x []).map Value.bool)
theorem RelAt.below {W W' : World} {B g a b : Nat} {bl : List Nat} {F : Mat} (h : RelAt W B g a b bl F) (hb : Below W.heap.size W W') : RelAt W' B g a b bl F :=
  ⟨h.shp, h.len, h.nod, own_up' h.outer hb, fun x hx => own_up' (h.rows x hx) hb⟩
theorem RelAt.cells {W : World} {B g a b : Nat} {bl : List Nat} {F : Mat} (h : RelAt W B g a b bl F) {x y : Nat} (hx : x < a) (hy : y < b) :
    W.cell? ⟨g, x, none⟩ = some (rowV b (bl.getD x 0)) ∧ W.cell? ⟨bl.getD x 0, y, none⟩ = some (.bool (getF F x y)) ∧ W.frozen? ⟨bl.getD x 0, y, none⟩ = false := by
  refine ⟨?_, ?_, (h.rows x hx).frozenAt y⟩
  · rw [h.outer.cellAt x (by omega), List.getElem?_map, List.getElem?_eq_getElem (by rw [h.len]; exact hx), List.getD_eq_getElem?_getD, List.getElem?_eq_getElem (by rw [h.len]; exact hx)]
    rfl
  · rw [(h.rows x hx).cellAt y (by omega), List.getElem?_map, List.getElem?_eq_getElem (by rw [h.shp.2 x hx]; exact hy)]
    unfold getF
    rw [List.getD_eq_getElem?_getD (l := F.getD x []), List.getElem?_eq_getElem (by rw [h.shp.2 x hx]; exact hy)]
    rfl
theorem RelAt.set {W : World} {B g a b : Nat} {bl : List Nat} {F : Mat} (h : RelAt W B g a b bl F) {x y : Nat} (hx : x < a) (_hy : y < b) : RelAt (W.setCell ⟨bl.getD x 0, y, none⟩ (.bool true)) B g a b bl (setF F x y) := by
  have h1 := (h.rows x hx).stored y (.bool true)
  refine ⟨setF_shp h.shp x y, h.len, h.nod, h.outer.kept h1.2 (own_apart h.outer (h.rows x hx) (by decide)), fun z hz => ?_⟩
  unfold setF
  by_cases e : z = x
  · subst e
    have e1 : (F.set z ((F.getD z []).set y true)).getD z [] = (F.getD z []).set y true := by
      rw [List.getD_eq_getElem?_getD, List.getElem?_set, if_pos rfl, if_pos (by rw [h.shp.1]; exact hx)]; rfl
    rw [e1, List.map_set]
    exact h1.1
  · have e1 : (F.set x ((F.getD x []).set y true)).getD z [] = F.getD z [] := by
      rw [List.getD_eq_getElem?_getD, List.getElem?_set, if_neg (fun q => e q.symm), ← List.getD_eq_getElem?_getD]
    rw [e1]
    exact (h.rows z hz).kept h1.2 (.inr fun q => e (h.nod z x hz hx (by simp only [rowV, Value.ownBlock, Option.some.injEq] at q; exact q)))

set_option maxRecDepth 100000 in
set_option maxHeartbeats 4000000 in
theorem add_any {w : World} {B g a b : Nat} {bl : List Nat} {F : Mat} (h : RelAt w B g a b bl F) {x y : Nat} (hx : x < a) (hy : y < b) (_ha : a ≤ 1000000) (_hb : b ≤ 1000000) :
    Calls Tryz.prog 35 #[.slice (some ⟨g, 0, none⟩) a a, .agg #[.int .i64 x, .int .i64 y]] w fun e w' => e = .returned (.bool (!getF F x y)) ∧ RelAt w' B g a b bl (setF F x y) ∧ w.grownBy w' (some (bl.getD x 0)) := by
  have hb1 := (Below.refl w.heap.size w).alloc (Nat.le_refl _) (.cells #[.int .i64 x, .int .i64 y] 75)
  have h1 := h.below hb1
  obtain ⟨c1, c2, c3⟩ := h1.cells hx hy
  obtain ⟨d1, d2, d3⟩ := h.cells hx hy
  obtain ⟨r, hr⟩ : ∃ r, bl.getD x 0 = r := ⟨_, rfl⟩
  have hst : ∀ n : Nat, RelAt (((w.alloc (.cells #[.int .i64 x, .int .i64 y] 75)).drewN n).setCell ⟨bl.getD x 0, y, none⟩ (.bool true)) B g a b bl (setF F x y) := fun n => (h1.below (below_drewN (Below.refl _ _) n)).set hx hy
  have hg1 : ∀ n : Nat, w.grownBy (((w.alloc (.cells #[.int .i64 x, .int .i64 y] 75)).drewN n).setCell ⟨bl.getD x 0, y, none⟩ (.bool true)) (some (bl.getD x 0)) := fun n => by
    have h2 : Below w.heap.size w ((w.alloc (.cells #[.int .i64 x, .int .i64 y] 75)).drewN n) := below_drewN hb1 n
    exact (⟨h2.os, h2.tape, h2.output, h2.size, fun k hk _ => h2.block k hk⟩ : w.grownBy _ (some (bl.getD x 0))).trans (grown_self _ ⟨bl.getD x 0, y, none⟩ _)
  rw [hr] at c1 c2 c3 d1 d2 d3 hst hg1 ⊢
  have HST := Lib.hid hst
  have HG := Lib.hid hg1
  obtain ⟨q, HQ⟩ : ∃ q, Hid (getF F x y = q) := ⟨_, Lib.hid rfl⟩
  rw [HQ.out] at c2 d2 ⊢
  unfold rowV at c1 d1
  have i0 : (0 : Int) ≤ (x : Int) := by omega
  have i1 : (x : Int) < (a : Int) := by omega
  have i2 : (0 : Int) ≤ (y : Int) := by omega
  have i3 : (y : Int) < (b : Int) := by omega
  have zz1 : g < w.heap.size := lt_of_cell d1
  have zz2 : r < w.heap.size := lt_of_cell d2
  clear h h1 hst hg1 hb1 hr
  go_enter Tryz.func35, Tryz.ntmps35
  go_wp2
  go_quiet (fail)
  go_wp2
  go_region
  go_wp2
  go_ret
  exact ⟨rfl, HST.out _, HG.out _⟩

/-- what a trial is held by -/
structure TrArg (W : World) (B : Nat) (a : Option Addr) (n c : Nat) (b : Option Addr) (k d : Nat) (m : Syst) (a' : Option Addr) (n' c' : Nat) (b' : Option Addr) (k' d' : Nat) (s : Spc) (vo : Value) (R : Nat) : Prop where
  sys : SysArg W a n c b k d m
  spc : SpecArg W a' n' c' b' k' d' s
  off : NumO W B vo (offL m)
  acc : W.ownsRow B 142 256 (.slice (some ⟨R, 0, none⟩) k' k') k' (boolsP (k' * 256) (accP s))
theorem TrArg.below {W W' : World} {B : Nat} {a : Option Addr} {n c : Nat} {b : Option Addr} {k d : Nat} {m : Syst} {a' : Option Addr} {n' c' : Nat} {b' : Option Addr} {k' d' : Nat} {s : Spc} {vo : Value} {R : Nat} (h : TrArg W B a n c b k d m a' n' c' b' k' d' s vo R) (hb : Below W.heap.size W W') : TrArg W' B a n c b k d m a' n' c' b' k' d' s vo R :=
  ⟨h.sys.below hb, h.spc.below hb, own_up' h.off hb, own_up' h.acc hb⟩
theorem accP_at (m : Syst) (s : Spc) (x y : Nat) (h : offS (stAt m.states x) < 256) : accP s (y * 256 + offS (stAt m.states x)) = fitB m s x y := by
  unfold accP fitB
  rw [show (y * 256 + offS (stAt m.states x)) % 256 = offS (stAt m.states x) by omega, show (y * 256 + offS (stAt m.states x)) / 256 = y by omega]
theorem offs_small {m : Syst} (hm : sysB m = true) {x : Nat} (hx : x < m.states.length) : offS (stAt m.states x) < 256 := offS_lt fun q hq => by
  obtain ⟨g1, g2, _, _⟩ := edge_ok hm hx hq
  have := ((actsB_iff m.acts).1 ((sysB_iff m).1 hm).1).1
  omega

set_option maxRecDepth 100000 in
set_option maxHeartbeats 4000000 in
theorem fits_any {w : World} {B : Nat} {a : Option Addr} {n c : Nat} {b : Option Addr} {k d : Nat} {m : Syst} {a' : Option Addr} {n' c' : Nat} {b' : Option Addr} {k' d' : Nat} {s : Spc} {oa : Option Addr} {oc R x y : Nat} (h : TrArg w B a n c b k d m a' n' c' b' k' d' s (.slice oa k oc) R) (hm : sysB m = true) (hx : x < k) (hy : y < k') (_hk : k ≤ 1000000) (_hk' : k' ≤ 1000000) :
    Calls Tryz.prog 36 #[.agg #[.slice a n c, .slice b k d, .slice a' n' c', .slice b' k' d', .slice oa k oc, .slice (some ⟨R, 0, none⟩) k' k'], .agg #[.int .i64 x, .int .i64 y]] w fun e w' => e = .returned (.bool (fitB m s x y)) ∧ Below w.heap.size w w' := by
  have hxm : x < m.states.length := by have := h.sys.len; omega
  have h8 := offs_small hm hxm
  have HF := Lib.hid (accP_at m s x y h8)
  have hol : (offL m).length = k := by unfold offL; rw [List.length_map]; exact h.sys.len.symm
  obtain ⟨O, HO⟩ : ∃ O, Hid (offS (stAt m.states x) = O) := ⟨_, Lib.hid rfl⟩
  rw [HO.out] at HF h8
  have hoff := h.off
  unfold NumO at hoff
  rw [hol] at hoff
  rcases hoff.2 with ⟨hno, h0⟩ | ⟨og, ocap, cur, heq, _⟩
  · omega
  · simp only [Value.slice.injEq, true_and] at heq
    obtain ⟨rfl, rfl⟩ := heq
    have c1 := hoff.cellAt x (by omega)
    rw [List.getElem?_map] at c1
    have e1 : (offL m)[x]? = some ((O : Nat) : Int) := by
      unfold offL
      rw [List.getElem?_map, List.getElem?_eq_getElem hxm, ← HO.out]
      simp [stAt, List.getD, hxm]
    rw [e1] at c1
    change w.cell? _ = some (.int .i64 O) at c1
    have hj : y * 256 + O < k' * 256 := by omega
    have c2 := h.acc.cellAt (y * 256 + O) hj
    rw [boolsP_at _ hj, HF.out] at c2
    obtain ⟨q, HQ⟩ : ∃ q, Hid (fitB m s x y = q) := ⟨_, Lib.hid rfl⟩
    rw [HQ.out] at c2 ⊢
    have i0 : (0 : Int) ≤ (x : Int) := by omega
    have i1 : (x : Int) < (k : Int) := by omega
    have i2 : (0 : Int) ≤ (y : Int) := by omega
    have i3 : (y : Int) < (k' : Int) := by omega
    have i4 : (0 : Int) ≤ (O : Int) := by omega
    have i5 : (O : Int) < 256 := by omega
    have zz1 := lt_of_cell c1
    have zz2 := lt_of_cell c2
    have hb1 := ((Below.refl w.heap.size w).alloc (Nat.le_refl _) (.cells #[.slice a n c, .slice b k d, .slice a' n' c', .slice b' k' d', .slice (some ⟨og, 0, none⟩) k oc, .slice (some ⟨R, 0, none⟩) k' k'] 79)).alloc (by simp) (.cells #[.int .i64 x, .int .i64 y] 75)
    have HB := Lib.hid hb1
    clear h hoff hb1 e1 hol hj
    go_enter Tryz.func36, Tryz.ntmps36
    go_wp2
    go_quiet (fail)
    go_wp2
    go_ret
    exact ⟨rfl, below_drewN HB.out _⟩

set_option maxRecDepth 100000 in
set_option maxHeartbeats 4000000 in
theorem follow_any {w : World} {B : Nat} {a : Option Addr} {n c : Nat} {b : Option Addr} {k d : Nat} {m : Syst} {a' : Option Addr} {n' c' : Nat} {b' : Option Addr} {k' d' : Nat} {s : Spc} {vo : Value} {R x y u z : Nat} (h : TrArg w B a n c b k d m a' n' c' b' k' d' s vo R) (hvo : ∃ oa oc, vo = .slice oa k oc) (hy : y < k') (hu : u < (teAt s.states y).2.length) {t : Nat} (hn : (teAt s.states y).2.getD u 0 = (t : Int)) (_hk' : k' ≤ 1000000) :
    Calls Tryz.prog 38 #[.agg #[.slice a n c, .slice b k d, .slice a' n' c', .slice b' k' d', vo, .slice (some ⟨R, 0, none⟩) k' k'], .agg #[.int .i64 x, .int .i64 y], .agg #[.int .i64 u, .int .i64 z]] w fun e w' => e = .returned (.agg #[.int .i64 z, .int .i64 t]) ∧ Below w.heap.size w w' := by
  obtain ⟨oa, oc, rfl⟩ := hvo
  have hys : y < s.states.length := by have := h.spc.len; omega
  obtain ⟨bb, off, rfl, a1, m1, q1, a2, m2, q2, d1, d2, hN1, hN2⟩ := h.spc.rows y hys
  obtain ⟨bn, on, rfl, d3⟩ := hN2.arg.cells u hu
  rw [hn] at d3
  have hm2 : u < m2 := by have := hN2.arg.len; omega
  have i2 : (0 : Int) ≤ (y : Int) := by omega
  have i3 : (y : Int) < (k' : Int) := by omega
  have i4 : (0 : Int) ≤ (u : Int) := by omega
  have i5 : (u : Int) < (m2 : Int) := by omega
  have zz2 := lt_of_cell d2
  have zz3 := lt_of_cell d3
  have hb1 := (((Below.refl w.heap.size w).alloc (Nat.le_refl _) (.cells #[.slice a n c, .slice b k d, .slice a' n' c', .slice (some ⟨bb, off, none⟩) k' d', .slice oa k oc, .slice (some ⟨R, 0, none⟩) k' k'] 79)).alloc (by simp) (.cells #[.int .i64 x, .int .i64 y] 75)).alloc (by simp; omega) (.cells #[.int .i64 u, .int .i64 z] 69)
  have HB := Lib.hid hb1
  have e2 := cell_new (cell_new (cell_new (cell_new d2 (.cells #[.slice a n c, .slice b k d, .slice a' n' c', .slice (some ⟨bb, off, none⟩) k' d', .slice oa k oc, .slice (some ⟨R, 0, none⟩) k' k'] 79)) (.cells #[.int .i64 x, .int .i64 y] 75)) (.cells #[.int .i64 u, .int .i64 z] 69)) (.cells #[.int .i64 0, .int .i64 0] 75)
  have e3 := cell_new (cell_new (cell_new (cell_new d3 (.cells #[.slice a n c, .slice b k d, .slice a' n' c', .slice (some ⟨bb, off, none⟩) k' d', .slice oa k oc, .slice (some ⟨R, 0, none⟩) k' k'] 79)) (.cells #[.int .i64 x, .int .i64 y] 75)) (.cells #[.int .i64 u, .int .i64 z] 69)) (.cells #[.int .i64 0, .int .i64 0] 75)
  clear h hb1 hN1 hN2 hn hu
  go_enter Tryz.func38, Tryz.ntmps38
  go_wp2
  go_region
  go_wp2
  exact bodyPost_ret (v := .agg #[.int .i64 z, .int .i64 t]) (by simp [results, Tryz.results38, go_sem]) rfl ⟨rfl, (HB.out.alloc (by simp; omega) _).drew⟩
end Go.Proofs.YtgpfpnenpgnogaaGreatDoor
/- Plain facts: the specification of the laws' fixed calls, its string, and the two systems that are held against it; nothing here is about a program. -/
namespace Go.Proofs.YtgpfpnenpgnogaaGreatDoor.Pl
open Go Go.Lib

def coinB : ByteArray := mk [99, 111, 105, 110]
def teaB : ByteArray := mk [116, 101, 97]
def vendQ : Spc := ⟨[coinB, teaB], [([1], [1, -1]), ([0, 2], [-1, 0])]⟩
def sysA : Syst := ⟨[coinB, teaB], [[(0, 1)], []]⟩
def sysN : Syst := ⟨[coinB, teaB], [[]]⟩
theorem vendQ_ok : spcB vendQ = true := by decide
theorem sysA_ok : sysB sysA = true := by decide
theorem sysN_ok : sysB sysN = true := by decide
theorem dig0 : decDigits 0 = [48] := by unfold decDigits; rfl
theorem dig1 : decDigits 1 = [49] := by unfold decDigits; rfl
theorem mem0 : memL 0 = [] := by decide
theorem mem1 : memL 1 = [0] := by decide
theorem mem2 : memL 2 = [1] := by decide
def vendL : List UInt8 := [115, 112, 101, 99, 32, 99, 111, 105, 110, 32, 116, 101, 97, 10, 48, 58, 32, 123, 99, 111, 105, 110, 125, 32, 45, 62, 32, 99, 111, 105, 110, 32, 49, 10, 49, 58, 32, 123, 125, 32, 123, 116, 101, 97, 125, 32, 45, 62, 32, 116, 101, 97, 32, 48]
theorem vendQ_str : strSp vendQ = vendL ++ [10] := by
  have e : List.range (vendQ.states.map (steW vendQ.acts)).length = [0, 1] := by decide
  have r2 : List.range 2 = [0, 1] := by decide
  have h0 : lineK 0 ((vendQ.states.map (steW vendQ.acts)).getD 0 []) = [48, 58, 32, 123, 99, 111, 105, 110, 125, 32, 45, 62, 32, 99, 111, 105, 110, 32, 49] := by
    simp [lineK, blanks, steW, accW, nxW, toW, vendQ, r2, dig0, dig1, mem1, setS, bArrow, join, at_, coinB, teaB, mk]
  have h1 : lineK 1 ((vendQ.states.map (steW vendQ.acts)).getD 1 []) = [49, 58, 32, 123, 125, 32, 123, 116, 101, 97, 125, 32, 45, 62, 32, 116, 101, 97, 32, 48] := by
    simp [lineK, blanks, steW, accW, nxW, toW, vendQ, r2, dig0, dig1, mem0, mem2, setS, bArrow, join, at_, coinB, teaB, mk]
  unfold strSp objS objK
  rw [show (vendQ.states.map (steW vendQ.acts)).length = 2 from rfl, r2]
  simp only [List.flatMap_cons, List.flatMap_nil, h0, h1]
  decide
theorem vendQ_parse : parseSp vendL = (vendQ, 0) := by
  have h := (parse_strSp vendQ_ok (fun i hi x hx => by
    have hi' : i = 0 ∨ i = 1 := by
      have : i < 2 := hi
      omega
    rcases hi' with rfl | rfl
    · have : x ∈ [(1 : Int)] := hx
      simp at this; omega
    · have : x ∈ [(0 : Int), 2] := hx
      simp at this; omega) (by rw [vendQ_str]; decide)).2
  rw [vendQ_str] at h
  exact h

/-! ### verdicts -/
/-- the word of a place in the queue -/
def spellQ (Q : List Wt) : Nat → Nat → List Int
  | 0, _ => []
  | f + 1, p => if p = 0 then [] else spellQ Q f (wtAt Q p).before ++ [(wtAt Q p).last]
/-- the system satisfies the specification; these pairs are told -/
def SatYes (m : Syst) (s : Spc) (L : List (Nat × Nat)) : Prop := ∃ i, FitsTo m s i ∧ (stQ m s i).1.length = i ∧ L = allF (stQ m s i).2
/-- it does not: a word and a state are told -/
def SatNo (m : Syst) (s : Spc) (wd : List Int) (x : Nat) : Prop :=
  ∃ i, FitsTo m s i ∧ i < (stQ m s i).1.length ∧ fitB m s (wtAt (stQ m s i).1 i).x (wtAt (stQ m s i).1 i).y = false ∧ wd = spellQ (stQ m s i).1 i i ∧ x = (wtAt (stQ m s i).1 i).x
theorem satA_yes {L : List (Nat × Nat)} (h : SatYes sysA vendQ L) : L.length = 2 := by
  obtain ⟨i, h1, h2, rfl⟩ := h
  have n0 : (stQ sysA vendQ 0).1.length = 1 := by decide
  have n1 : (stQ sysA vendQ 1).1.length = 2 := by decide
  have n2 : (stQ sysA vendQ 2).1.length = 2 := by decide
  have n3 : (allF (stQ sysA vendQ 2).2).length = 2 := by decide
  rcases Nat.lt_trichotomy i 2 with h | rfl | h
  · rcases (show i = 0 ∨ i = 1 by omega) with rfl | rfl
    · omega
    · omega
  · exact n3
  · have := (h1 2 h).1
    omega
theorem satA_no {wd : List Int} {x : Nat} (h : SatNo sysA vendQ wd x) : False := by
  obtain ⟨i, h1, h2, h3, _, _⟩ := h
  have f0 : fitB sysA vendQ (wtAt (stQ sysA vendQ 0).1 0).x (wtAt (stQ sysA vendQ 0).1 0).y = true := by decide
  have f1 : fitB sysA vendQ (wtAt (stQ sysA vendQ 1).1 1).x (wtAt (stQ sysA vendQ 1).1 1).y = true := by decide
  have n2 : (stQ sysA vendQ 2).1.length = 2 := by decide
  rcases Nat.lt_trichotomy i 2 with h | rfl | h
  · rcases (show i = 0 ∨ i = 1 by omega) with rfl | rfl
    · rw [f0] at h3; cases h3
    · rw [f1] at h3; cases h3
  · omega
  · have := (h1 2 h).1
    omega
theorem satN_yes {L : List (Nat × Nat)} (h : SatYes sysN vendQ L) : False := by
  obtain ⟨i, h1, h2, _⟩ := h
  have n0 : (stQ sysN vendQ 0).1.length = 1 := by decide
  have f0 : fitB sysN vendQ (wtAt (stQ sysN vendQ 0).1 0).x (wtAt (stQ sysN vendQ 0).1 0).y = false := by decide
  rcases Nat.eq_zero_or_pos i with rfl | h
  · omega
  · have := (h1 0 h).2
    rw [f0] at this; cases this
theorem satN_no {wd : List Int} {x : Nat} (h : SatNo sysN vendQ wd x) : wd = [] ∧ x = 0 := by
  obtain ⟨i, h1, h2, h3, h4, h5⟩ := h
  have f0 : fitB sysN vendQ (wtAt (stQ sysN vendQ 0).1 0).x (wtAt (stQ sysN vendQ 0).1 0).y = false := by decide
  rcases Nat.eq_zero_or_pos i with rfl | h
  · exact ⟨h4, h5⟩
  · have := (h1 0 h).2
    rw [f0] at this; cases this
end Go.Proofs.YtgpfpnenpgnogaaGreatDoor.Pl
/- Contracts of the functions of package strings that package act calls, at this seat's numbers. -/
namespace Go.Proofs
open Go.Shelf
def Tryz.lays112_ren : Go.Shelf.Ren := ⟨fun | 112 => 76 | n => n, fun | 28 => 37 | 3 => 3 | 4 => 4 | 0 => 0 | n => n, fun | n => n⟩
theorem Tryz.lays112 : Go.Proofs.Lays.n112 Tryz.prog Tryz.lays112_ren := {
  mixed := by kernel_rfl
  f112 := Tryz.func76.trans (congrArg some (by kernel_rfl))
  t0 := Tryz.underlying0
  a0 := Tryz.isAgg0
  z0 := Tryz.sizeOf0
  v0 := Tryz.zeroValue0
  t3 := Tryz.underlying3
  a3 := Tryz.isAgg3
  z3 := Tryz.sizeOf3
  v3 := Tryz.zeroValue3
  t4 := Tryz.underlying4
  a4 := Tryz.isAgg4
  z4 := Tryz.sizeOf4
  v4 := Tryz.zeroValue4
  t28 := Tryz.underlying37
  a28 := Tryz.isAgg37
  z28 := Tryz.sizeOf37
  v28 := Tryz.zeroValue37 }
open Go.RowKit Go.Lib Go.Sort in
theorem Tryz.slices_Reverse_int (blk off cap : Nat) (zs : List Int) (w : World) (hH : Holds (Value.int .i64) w blk off zs.toArray) (hsz : zs.length ≤ 9223372036854775807) :
    Calls Tryz.prog 76 #[.slice (some ⟨blk, off, none⟩) zs.length cap] w fun e w' => e = .returned (.tuple #[]) ∧ ∃ n, w' = putRow (Value.int .i64) (Sort.ahead w n) blk off zs.reverse.toArray := Any.slices_Reverse_int Tryz.lays112 blk off cap zs w hH hsz
open Go.RowKit Go.Lib Go.Sort in
theorem Tryz.slices_Reverse_int_empty (a : Option Addr) (cap : Nat) (w : World) :
    Calls Tryz.prog 76 #[.slice a 0 cap] w fun e w' => e = .returned (.tuple #[]) ∧ w' = w := Any.slices_Reverse_int_empty Tryz.lays112 a cap w
def Tryz.laysNm216_ren : Go.Shelf.Ren := ⟨fun | 16 => 59 | n => n, fun | 24 => 22 | 9 => 9 | 4 => 4 | n => n, fun | n => n⟩
theorem Tryz.laysNm216 : Go.Proofs.Lays2.n16 Tryz.prog Tryz.laysNm216_ren := {
  mixed := by kernel_rfl
  f16 := Tryz.func59.trans (congrArg some (by kernel_rfl))
  t4 := Tryz.underlying4
  a4 := Tryz.isAgg4
  z4 := Tryz.sizeOf4
  v4 := Tryz.zeroValue4
  t9 := Tryz.underlying9
  a9 := Tryz.isAgg9
  z9 := Tryz.sizeOf9
  v9 := Tryz.zeroValue9
  t24 := Tryz.underlying22
  a24 := Tryz.isAgg22
  z24 := Tryz.sizeOf22
  v24 := Tryz.zeroValue22
  i9 := by kernel_rfl }
open Go.RowKit Go.Lib in
theorem Tryz.slices_Clone_string (b off n c : Nat) (zs : List ByteArray) (w : World) (hz : n ≤ zs.length) (hbig : n * 16 ≤ 140737488355328) (hc : ∀ j, j < zs.length → w.cell? ⟨b, off + j, none⟩ = some (.string (zs.getD j ByteArray.empty))) :
    Calls Tryz.prog 59 #[.slice (some ⟨b, off, none⟩) n c] w fun e w' => ∃ v', e = .returned v' ∧ w'.ownsRow w.heap.size 9 1 v' n ((zs.take n).map (Value.string)) ∧ v' ≠ .slice none 0 0 ∧ Below w.heap.size w w' := Any.slices_Clone_string Tryz.laysNm216 b off n c zs w hz hbig hc
open Go.RowKit Go.Lib in
theorem Tryz.slices_Clone_string_nil (n c : Nat) (w : World) :
    Calls Tryz.prog 59 #[.slice none n c] w fun e w' => e = .returned (.slice none 0 0) ∧ w' = w := Any.slices_Clone_string_nil Tryz.laysNm216 n c w
open Go.RowKit Go.Lib in
theorem Tryz.slices_Clone_string_zero (a : Addr) (c : Nat) (w : World) :
    Calls Tryz.prog 59 #[.slice (some a) 0 c] w fun e w' => ∃ v', e = .returned v' ∧ w'.ownsRow w.heap.size 9 1 v' 0 [] ∧ v' ≠ .slice none 0 0 ∧ Below w.heap.size w w' := Any.slices_Clone_string_zero Tryz.laysNm216 a c w
end Go.Proofs
