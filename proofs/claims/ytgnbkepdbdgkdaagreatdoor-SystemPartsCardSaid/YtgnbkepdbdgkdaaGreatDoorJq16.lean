/- Texts joined: SatF, SpVal, ShelfV, SatG, FaultPl, IsW, Word, RGood, RList. -/
import Derived.Test.YtgnbkepdbdgkdaaGreatDoorJq15
import Derived.BigQuiet
import Derived.Test.YtgnbkepdbdgkdaaGreatDoorJq14
import Derived.Test.YtgnbkepdbdgkdaaGreatDoorJq11
import Derived.Shelf.Strings.Builder1
import Derived.Shelf.Strings.Builder2
import Derived.Shelf.Strings.OnBuilder
import Derived.Shelf.Small.Bits
import Derived.Shelf.Small.Wraps
import Derived.Shelf.Strings.BuilderF
import Derived.Shelf.Strings.BuilderK
import Derived.Shelf.Strconv.Atoi
import Derived.Shelf.Strconv.Itoa0
import Derived.Shelf.Strconv.Itoa1
import Derived.Shelf.LaysM
import Derived.Shelf.Strconv.Itoa2
import Derived.Shelf.Strconv.Itoa3
import Derived.Shelf.Strconv.AtoiErrFast
import Derived.Shelf.Strconv.ParseIntEmpty
import Derived.Shelf.Strconv.AtoiFail
import Derived.Shelf.Strconv.Clone
import Derived.Shelf.Strconv.SyntaxError
import Derived.Shelf.LaysC
import Derived.Shelf.Strconv.ToError
import Derived.Shelf.Strconv.Lower
import Derived.Shelf.Strconv.ParseUint10
import Derived.Shelf.Strconv.ParseUint10Empty
import Derived.Shelf.Strconv.ParseUint10Any
import Derived.Shelf.Strconv.ParseInt10
import Derived.Shelf.Strconv.AtoiLong
import Derived.Shelf.Strconv.AtoiInnerAll
import Derived.Shelf.Strconv.RangeError
import Derived.Shelf.Strconv.ToErrorRange
import Derived.Shelf.Strconv.AtoiAll
import Derived.Shelf.Strconv.ErrVarAll
import Derived.Shelf.Strings.Search1
import Derived.Shelf.Strings.Search2
import Derived.Shelf.Strings.Search3
import Derived.Shelf.Strings.Count
import Derived.Shelf.Strings.Shaped
import Derived.Shelf.Strings.Prefix
import Derived.Shelf.Strings.Split
import Derived.Shelf.Bits.Mul64
import Derived.Shelf.Unicode.DecodeSlow
import Derived.Shelf.Slices.Turned
import Derived.Shelf.Slices.Reverse
import Derived.Shelf.Slices.Equal
import Derived.Ground.Names2Prog
import Derived.Shelf.Slices.Clone
import Derived.Shelf.Slices.Cells
import Derived.Shelf.Slices.Empties2
import Derived.Test.YtgnbkepdbdgkdaaGreatDoorProg
import Derived.Sort.OwnSortedInts
import Derived.Test.YtgnbkepdbdgkdaaGreatDoorJq01
import Derived.Test.YtgnbkepdbdgkdaaGreatDoorJq08
import Derived.Test.YtgnbkepdbdgkdaaGreatDoorJq10
import Derived.Test.YtgnbkepdbdgkdaaGreatDoorJq09
import Derived.Deep.RegionHeld3
import Derived.Test.YtgnbkepdbdgkdaaGreatDoorJq00
import Derived.Maps.AppendAt
import Derived.OwnWalk
/- The parts of spec.Satisfies: noPairs, add, fits, follow. -/
namespace Go.Proofs.YtgnbkepdbdgkdaaGreatDoor
open Go.RowKit Pl

theorem infoBoolV : (Tryz.prog.info? 4).map (fun i => (i.zero, i.size, i.bytes)) = some (some (.bool false), 1, 1) := by kernel_rfl
theorem infoRowB : (Tryz.prog.info? 173).map (fun i => (i.zero, i.size, i.bytes)) = some (some (.slice none 0 0), 1, 24) := by kernel_rfl
def rowV (b r : Nat) : Value := .slice (some ⟨r, 0, none⟩) b b
/-- a table of marks in the call's own memory -/
structure RelAt (W : World) (B g a b : Nat) (bl : List Nat) (F : Mat) : Prop where
  shp : Shp F a b
  len : bl.length = a
  nod : ∀ x y, x < a → y < a → bl.getD x 0 = bl.getD y 0 → x = y
  outer : W.ownsRow B 173 1 (.slice (some ⟨g, 0, none⟩) a a) a (bl.map (rowV b))
  rows : ∀ x, x < a → W.ownsRow B 4 1 (rowV b (bl.getD x 0)) b ((F.getD x []).map Value.bool)
theorem RelAt.below {W W' : World} {B g a b : Nat} {bl : List Nat} {F : Mat} (h : RelAt W B g a b bl F) (hb : Below W.heap.size W W') : RelAt W' B g a b bl F :=
  ⟨h.shp, h.len, h.nod, own_up' h.outer hb, fun x hx => own_up' (h.rows x hx) hb⟩
theorem RelAt.cells {W : World} {B g a b : Nat} {bl : List Nat} {F : Mat} (h : RelAt W B g a b bl F) {x y : Nat} (hx : x < a) (hy : y < b) :
    W.cell? ⟨g, x, none⟩ = some (rowV b (bl.getD x 0)) ∧ W.cell? ⟨bl.getD x 0, y, none⟩ = some (.bool (getF F x y)) ∧ W.frozen? ⟨bl.getD x 0, y, none⟩ = false := by
  refine ⟨?_, ?_, (h.rows x hx).frozenAt y⟩
  · rw [h.outer.cellAt x (by omega), List.getElem?_map, List.getElem?_eq_getElem (by rw [h.len]; exact hx), List.getD_eq_getElem?_getD, List.getElem?_eq_getElem (by rw [h.len]; exact hx)]
    rfl
  · rw [(h.rows x hx).cellAt y (by omega), List.getElem?_map, List.getElem?_eq_getElem (by rw [h.shp.2 x hx]; exact hy)]
    unfold getF
    rw [List.getD_eq_getElem?_getD (l := F.getD x []), List.getElem?_eq_getElem (by rw [h.shp.2 x hx]; exact hy)]
    rfl
theorem RelAt.set {W : World} {B g a b : Nat} {bl : List Nat} {F : Mat} (h : RelAt W B g a b bl F) {x y : Nat} (hx : x < a) (_hy : y < b) : RelAt (W.setCell ⟨bl.getD x 0, y, none⟩ (.bool true)) B g a b bl (setF F x y) := by
  have h1 := (h.rows x hx).stored y (.bool true)
  refine ⟨setF_shp h.shp x y, h.len, h.nod, h.outer.kept h1.2 (own_apart h.outer (h.rows x hx) (by decide)), fun z hz => ?_⟩
  unfold setF
  by_cases e : z = x
  · subst e
    have e1 : (F.set z ((F.getD z []).set y true)).getD z [] = (F.getD z []).set y true := by
      rw [List.getD_eq_getElem?_getD, List.getElem?_set, if_pos rfl, if_pos (by rw [h.shp.1]; exact hx)]; rfl
    rw [e1, List.map_set]
    exact h1.1
  · have e1 : (F.set x ((F.getD x []).set y true)).getD z [] = F.getD z [] := by
      rw [List.getD_eq_getElem?_getD, List.getElem?_set, if_neg (fun q => e q.symm), ← List.getD_eq_getElem?_getD]
    rw [e1]
    exact (h.rows z hz).kept h1.2 (.inr fun q => e (h.nod z x hz hx (by simp only [rowV, Value.ownBlock, Option.some.injEq] at q; exact q)))

set_option maxRecDepth 100000 in
set_option maxHeartbeats 4000000 in
theorem add_any {w : World} {B g a b : Nat} {bl : List Nat} {F : Mat} (h : RelAt w B g a b bl F) {x y : Nat} (hx : x < a) (hy : y < b) (_ha : a ≤ 1000000) (_hb : b ≤ 1000000) :
    Calls Tryz.prog 63 #[.slice (some ⟨g, 0, none⟩) a a, .agg #[.int .i64 x, .int .i64 y]] w fun e w' => e = .returned (.bool (!getF F x y)) ∧ RelAt w' B g a b bl (setF F x y) ∧ w.grownBy w' (some (bl.getD x 0)) := by
  have hb1 := (Below.refl w.heap.size w).alloc (Nat.le_refl _) (.cells #[.int .i64 x, .int .i64 y] 48)
  have h1 := h.below hb1
  obtain ⟨c1, c2, c3⟩ := h1.cells hx hy
  obtain ⟨d1, d2, d3⟩ := h.cells hx hy
  obtain ⟨r, hr⟩ : ∃ r, bl.getD x 0 = r := ⟨_, rfl⟩
  have hst : ∀ n : Nat, RelAt (((w.alloc (.cells #[.int .i64 x, .int .i64 y] 48)).drewN n).setCell ⟨bl.getD x 0, y, none⟩ (.bool true)) B g a b bl (setF F x y) := fun n => (h1.below (below_drewN (Below.refl _ _) n)).set hx hy
  have hg1 : ∀ n : Nat, w.grownBy (((w.alloc (.cells #[.int .i64 x, .int .i64 y] 48)).drewN n).setCell ⟨bl.getD x 0, y, none⟩ (.bool true)) (some (bl.getD x 0)) := fun n => by
    have h2 : Below w.heap.size w ((w.alloc (.cells #[.int .i64 x, .int .i64 y] 48)).drewN n) := below_drewN hb1 n
    exact (⟨h2.os, h2.tape, h2.output, h2.size, fun k hk _ => h2.block k hk⟩ : w.grownBy _ (some (bl.getD x 0))).trans (grown_self _ ⟨bl.getD x 0, y, none⟩ _)
  rw [hr] at c1 c2 c3 d1 d2 d3 hst hg1 ⊢
  have HST := Lib.hid hst
  have HG := Lib.hid hg1
  obtain ⟨q, HQ⟩ : ∃ q, Hid (getF F x y = q) := ⟨_, Lib.hid rfl⟩
  rw [HQ.out] at c2 d2 ⊢
  unfold rowV at c1 d1
  have i0 : (0 : Int) ≤ (x : Int) := by omega
  have i1 : (x : Int) < (a : Int) := by omega
  have i2 : (0 : Int) ≤ (y : Int) := by omega
  have i3 : (y : Int) < (b : Int) := by omega
  have zz1 : g < w.heap.size := lt_of_cell d1
  have zz2 : r < w.heap.size := lt_of_cell d2
  clear h h1 hst hg1 hb1 hr
  go_enter Tryz.func63, Tryz.ntmps63
  go_wp2
  go_quiet (fail)
  go_wp2
  go_region
  go_wp2
  go_ret
  exact ⟨rfl, HST.out _, HG.out _⟩

/-- what a trial is held by -/
structure TrArg (W : World) (B : Nat) (a : Option Addr) (n c : Nat) (b : Option Addr) (k d : Nat) (m : Syst) (a' : Option Addr) (n' c' : Nat) (b' : Option Addr) (k' d' : Nat) (s : Spc) (vo : Value) (R : Nat) : Prop where
  sys : SysArg W a n c b k d m
  spc : SpecArg W a' n' c' b' k' d' s
  off : NumO W B vo (offL m)
  acc : W.ownsRow B 179 256 (.slice (some ⟨R, 0, none⟩) k' k') k' (boolsP (k' * 256) (accP s))
theorem TrArg.below {W W' : World} {B : Nat} {a : Option Addr} {n c : Nat} {b : Option Addr} {k d : Nat} {m : Syst} {a' : Option Addr} {n' c' : Nat} {b' : Option Addr} {k' d' : Nat} {s : Spc} {vo : Value} {R : Nat} (h : TrArg W B a n c b k d m a' n' c' b' k' d' s vo R) (hb : Below W.heap.size W W') : TrArg W' B a n c b k d m a' n' c' b' k' d' s vo R :=
  ⟨h.sys.below hb, h.spc.below hb, own_up' h.off hb, own_up' h.acc hb⟩
theorem accP_at (m : Syst) (s : Spc) (x y : Nat) (h : offS (stAt m.states x) < 256) : accP s (y * 256 + offS (stAt m.states x)) = fitB m s x y := by
  unfold accP fitB
  rw [show (y * 256 + offS (stAt m.states x)) % 256 = offS (stAt m.states x) by omega, show (y * 256 + offS (stAt m.states x)) / 256 = y by omega]
theorem offs_small {m : Syst} (hm : sysB m = true) {x : Nat} (hx : x < m.states.length) : offS (stAt m.states x) < 256 := offS_lt fun q hq => by
  obtain ⟨g1, g2, _, _⟩ := edge_ok hm hx hq
  have := ((actsB_iff m.acts).1 ((sysB_iff m).1 hm).1).1
  omega

set_option maxRecDepth 100000 in
set_option maxHeartbeats 4000000 in
theorem fits_any {w : World} {B : Nat} {a : Option Addr} {n c : Nat} {b : Option Addr} {k d : Nat} {m : Syst} {a' : Option Addr} {n' c' : Nat} {b' : Option Addr} {k' d' : Nat} {s : Spc} {oa : Option Addr} {oc R x y : Nat} (h : TrArg w B a n c b k d m a' n' c' b' k' d' s (.slice oa k oc) R) (hm : sysB m = true) (hx : x < k) (hy : y < k') (_hk : k ≤ 1000000) (_hk' : k' ≤ 1000000) :
    Calls Tryz.prog 64 #[.agg #[.slice a n c, .slice b k d, .slice a' n' c', .slice b' k' d', .slice oa k oc, .slice (some ⟨R, 0, none⟩) k' k'], .agg #[.int .i64 x, .int .i64 y]] w fun e w' => e = .returned (.bool (fitB m s x y)) ∧ Below w.heap.size w w' := by
  have hxm : x < m.states.length := by have := h.sys.len; omega
  have h8 := offs_small hm hxm
  have HF := Lib.hid (accP_at m s x y h8)
  have hol : (offL m).length = k := by unfold offL; rw [List.length_map]; exact h.sys.len.symm
  obtain ⟨O, HO⟩ : ∃ O, Hid (offS (stAt m.states x) = O) := ⟨_, Lib.hid rfl⟩
  rw [HO.out] at HF h8
  have hoff := h.off
  unfold NumO at hoff
  rw [hol] at hoff
  rcases hoff.2 with ⟨hno, h0⟩ | ⟨og, ocap, cur, heq, _⟩
  · omega
  · simp only [Value.slice.injEq, true_and] at heq
    obtain ⟨rfl, rfl⟩ := heq
    have c1 := hoff.cellAt x (by omega)
    rw [List.getElem?_map] at c1
    have e1 : (offL m)[x]? = some ((O : Nat) : Int) := by
      unfold offL
      rw [List.getElem?_map, List.getElem?_eq_getElem hxm, ← HO.out]
      simp [stAt, List.getD, hxm]
    rw [e1] at c1
    change w.cell? _ = some (.int .i64 O) at c1
    have hj : y * 256 + O < k' * 256 := by omega
    have c2 := h.acc.cellAt (y * 256 + O) hj
    rw [boolsP_at _ hj, HF.out] at c2
    obtain ⟨q, HQ⟩ : ∃ q, Hid (fitB m s x y = q) := ⟨_, Lib.hid rfl⟩
    rw [HQ.out] at c2 ⊢
    have i0 : (0 : Int) ≤ (x : Int) := by omega
    have i1 : (x : Int) < (k : Int) := by omega
    have i2 : (0 : Int) ≤ (y : Int) := by omega
    have i3 : (y : Int) < (k' : Int) := by omega
    have i4 : (0 : Int) ≤ (O : Int) := by omega
    have i5 : (O : Int) < 256 := by omega
    have zz1 := lt_of_cell c1
    have zz2 := lt_of_cell c2
    have hb1 := ((Below.refl w.heap.size w).alloc (Nat.le_refl _) (.cells #[.slice a n c, .slice b k d, .slice a' n' c', .slice b' k' d', .slice (some ⟨og, 0, none⟩) k oc, .slice (some ⟨R, 0, none⟩) k' k'] 123)).alloc (by simp) (.cells #[.int .i64 x, .int .i64 y] 48)
    have HB := Lib.hid hb1
    clear h hoff hb1 e1 hol hj
    go_enter Tryz.func64, Tryz.ntmps64
    go_wp2
    go_quiet (fail)
    go_wp2
    go_ret
    exact ⟨rfl, below_drewN HB.out _⟩

set_option maxRecDepth 100000 in
set_option maxHeartbeats 4000000 in
theorem follow_any {w : World} {B : Nat} {a : Option Addr} {n c : Nat} {b : Option Addr} {k d : Nat} {m : Syst} {a' : Option Addr} {n' c' : Nat} {b' : Option Addr} {k' d' : Nat} {s : Spc} {vo : Value} {R x y u z : Nat} (h : TrArg w B a n c b k d m a' n' c' b' k' d' s vo R) (hvo : ∃ oa oc, vo = .slice oa k oc) (hy : y < k') (hu : u < (teAt s.states y).2.length) {t : Nat} (hn : (teAt s.states y).2.getD u 0 = (t : Int)) (_hk' : k' ≤ 1000000) :
    Calls Tryz.prog 66 #[.agg #[.slice a n c, .slice b k d, .slice a' n' c', .slice b' k' d', vo, .slice (some ⟨R, 0, none⟩) k' k'], .agg #[.int .i64 x, .int .i64 y], .agg #[.int .i64 u, .int .i64 z]] w fun e w' => e = .returned (.agg #[.int .i64 z, .int .i64 t]) ∧ Below w.heap.size w w' := by
  obtain ⟨oa, oc, rfl⟩ := hvo
  have hys : y < s.states.length := by have := h.spc.len; omega
  obtain ⟨bb, off, rfl, a1, m1, q1, a2, m2, q2, d1, d2, hN1, hN2⟩ := h.spc.rows y hys
  obtain ⟨bn, on, rfl, d3⟩ := hN2.arg.cells u hu
  rw [hn] at d3
  have hm2 : u < m2 := by have := hN2.arg.len; omega
  have i2 : (0 : Int) ≤ (y : Int) := by omega
  have i3 : (y : Int) < (k' : Int) := by omega
  have i4 : (0 : Int) ≤ (u : Int) := by omega
  have i5 : (u : Int) < (m2 : Int) := by omega
  have zz2 := lt_of_cell d2
  have zz3 := lt_of_cell d3
  have hb1 := (((Below.refl w.heap.size w).alloc (Nat.le_refl _) (.cells #[.slice a n c, .slice b k d, .slice a' n' c', .slice (some ⟨bb, off, none⟩) k' d', .slice oa k oc, .slice (some ⟨R, 0, none⟩) k' k'] 123)).alloc (by simp) (.cells #[.int .i64 x, .int .i64 y] 48)).alloc (by simp; omega) (.cells #[.int .i64 u, .int .i64 z] 87)
  have HB := Lib.hid hb1
  have e2 := cell_new (cell_new (cell_new (cell_new d2 (.cells #[.slice a n c, .slice b k d, .slice a' n' c', .slice (some ⟨bb, off, none⟩) k' d', .slice oa k oc, .slice (some ⟨R, 0, none⟩) k' k'] 123)) (.cells #[.int .i64 x, .int .i64 y] 48)) (.cells #[.int .i64 u, .int .i64 z] 87)) (.cells #[.int .i64 0, .int .i64 0] 48)
  have e3 := cell_new (cell_new (cell_new (cell_new d3 (.cells #[.slice a n c, .slice b k d, .slice a' n' c', .slice (some ⟨bb, off, none⟩) k' d', .slice oa k oc, .slice (some ⟨R, 0, none⟩) k' k'] 123)) (.cells #[.int .i64 x, .int .i64 y] 48)) (.cells #[.int .i64 u, .int .i64 z] 87)) (.cells #[.int .i64 0, .int .i64 0] 48)
  clear h hb1 hN1 hN2 hn hu
  go_enter Tryz.func66, Tryz.ntmps66
  go_wp2
  go_region
  go_wp2
  exact bodyPost_ret (v := .agg #[.int .i64 z, .int .i64 t]) (by simp [results, Tryz.results66, go_sem]) rfl ⟨rfl, (HB.out.alloc (by simp; omega) _).drew⟩
end Go.Proofs.YtgnbkepdbdgkdaaGreatDoor
/- Plain facts: the specification of the laws' fixed calls, its string, and the two systems that are held against it; nothing here is about a program. -/
namespace Go.Proofs.YtgnbkepdbdgkdaaGreatDoor.Pl
open Go Go.Lib

def coinB : ByteArray := mk [99, 111, 105, 110]
def teaB : ByteArray := mk [116, 101, 97]
def vendQ : Spc := ⟨[coinB, teaB], [([1], [1, -1]), ([0, 2], [-1, 0])]⟩
def sysA : Syst := ⟨[coinB, teaB], [[(0, 1)], []]⟩
def sysN : Syst := ⟨[coinB, teaB], [[]]⟩
theorem vendQ_ok : spcB vendQ = true := by decide
theorem sysA_ok : sysB sysA = true := by decide
theorem sysN_ok : sysB sysN = true := by decide
theorem dig0 : decDigits 0 = [48] := by unfold decDigits; rfl
theorem dig1 : decDigits 1 = [49] := by unfold decDigits; rfl
theorem mem0 : memL 0 = [] := by decide
theorem mem1 : memL 1 = [0] := by decide
theorem mem2 : memL 2 = [1] := by decide
def vendL : List UInt8 := [115, 112, 101, 99, 32, 99, 111, 105, 110, 32, 116, 101, 97, 10, 48, 58, 32, 123, 99, 111, 105, 110, 125, 32, 45, 62, 32, 99, 111, 105, 110, 32, 49, 10, 49, 58, 32, 123, 125, 32, 123, 116, 101, 97, 125, 32, 45, 62, 32, 116, 101, 97, 32, 48]
theorem vendQ_str : strSp vendQ = vendL ++ [10] := by
  have e : List.range (vendQ.states.map (steW vendQ.acts)).length = [0, 1] := by decide
  have r2 : List.range 2 = [0, 1] := by decide
  have h0 : lineK 0 ((vendQ.states.map (steW vendQ.acts)).getD 0 []) = [48, 58, 32, 123, 99, 111, 105, 110, 125, 32, 45, 62, 32, 99, 111, 105, 110, 32, 49] := by
    simp [lineK, blanks, steW, accW, nxW, toW, vendQ, r2, dig0, dig1, mem1, setS, bArrow, join, at_, coinB, teaB, mk]
  have h1 : lineK 1 ((vendQ.states.map (steW vendQ.acts)).getD 1 []) = [49, 58, 32, 123, 125, 32, 123, 116, 101, 97, 125, 32, 45, 62, 32, 116, 101, 97, 32, 48] := by
    simp [lineK, blanks, steW, accW, nxW, toW, vendQ, r2, dig0, dig1, mem0, mem2, setS, bArrow, join, at_, coinB, teaB, mk]
  unfold strSp objS objK
  rw [show (vendQ.states.map (steW vendQ.acts)).length = 2 from rfl, r2]
  simp only [List.flatMap_cons, List.flatMap_nil, h0, h1]
  decide
theorem vendQ_parse : parseSp vendL = (vendQ, 0) := by
  have h := (parse_strSp vendQ_ok (fun i hi x hx => by
    have hi' : i = 0 ∨ i = 1 := by
      have : i < 2 := hi
      omega
    rcases hi' with rfl | rfl
    · have : x ∈ [(1 : Int)] := hx
      simp at this; omega
    · have : x ∈ [(0 : Int), 2] := hx
      simp at this; omega) (by rw [vendQ_str]; decide)).2
  rw [vendQ_str] at h
  exact h

/-! ### verdicts -/
/-- the word of a place in the queue -/
def spellQ (Q : List Wt) : Nat → Nat → List Int
  | 0, _ => []
  | f + 1, p => if p = 0 then [] else spellQ Q f (wtAt Q p).before ++ [(wtAt Q p).last]
/-- the system satisfies the specification; these pairs are told -/
def SatYes (m : Syst) (s : Spc) (L : List (Nat × Nat)) : Prop := ∃ i, FitsTo m s i ∧ (stQ m s i).1.length = i ∧ L = allF (stQ m s i).2
/-- it does not: a word and a state are told -/
def SatNo (m : Syst) (s : Spc) (wd : List Int) (x : Nat) : Prop :=
  ∃ i, FitsTo m s i ∧ i < (stQ m s i).1.length ∧ fitB m s (wtAt (stQ m s i).1 i).x (wtAt (stQ m s i).1 i).y = false ∧ wd = spellQ (stQ m s i).1 i i ∧ x = (wtAt (stQ m s i).1 i).x
theorem satA_yes {L : List (Nat × Nat)} (h : SatYes sysA vendQ L) : L.length = 2 := by
  obtain ⟨i, h1, h2, rfl⟩ := h
  have n0 : (stQ sysA vendQ 0).1.length = 1 := by decide
  have n1 : (stQ sysA vendQ 1).1.length = 2 := by decide
  have n2 : (stQ sysA vendQ 2).1.length = 2 := by decide
  have n3 : (allF (stQ sysA vendQ 2).2).length = 2 := by decide
  rcases Nat.lt_trichotomy i 2 with h | rfl | h
  · rcases (show i = 0 ∨ i = 1 by omega) with rfl | rfl
    · omega
    · omega
  · exact n3
  · have := (h1 2 h).1
    omega
theorem satA_no {wd : List Int} {x : Nat} (h : SatNo sysA vendQ wd x) : False := by
  obtain ⟨i, h1, h2, h3, _, _⟩ := h
  have f0 : fitB sysA vendQ (wtAt (stQ sysA vendQ 0).1 0).x (wtAt (stQ sysA vendQ 0).1 0).y = true := by decide
  have f1 : fitB sysA vendQ (wtAt (stQ sysA vendQ 1).1 1).x (wtAt (stQ sysA vendQ 1).1 1).y = true := by decide
  have n2 : (stQ sysA vendQ 2).1.length = 2 := by decide
  rcases Nat.lt_trichotomy i 2 with h | rfl | h
  · rcases (show i = 0 ∨ i = 1 by omega) with rfl | rfl
    · rw [f0] at h3; cases h3
    · rw [f1] at h3; cases h3
  · omega
  · have := (h1 2 h).1
    omega
theorem satN_yes {L : List (Nat × Nat)} (h : SatYes sysN vendQ L) : False := by
  obtain ⟨i, h1, h2, _⟩ := h
  have n0 : (stQ sysN vendQ 0).1.length = 1 := by decide
  have f0 : fitB sysN vendQ (wtAt (stQ sysN vendQ 0).1 0).x (wtAt (stQ sysN vendQ 0).1 0).y = false := by decide
  rcases Nat.eq_zero_or_pos i with rfl | h
  · omega
  · have := (h1 0 h).2
    rw [f0] at this; cases this
theorem satN_no {wd : List Int} {x : Nat} (h : SatNo sysN vendQ wd x) : wd = [] ∧ x = 0 := by
  obtain ⟨i, h1, h2, h3, h4, h5⟩ := h
  have f0 : fitB sysN vendQ (wtAt (stQ sysN vendQ 0).1 0).x (wtAt (stQ sysN vendQ 0).1 0).y = false := by decide
  rcases Nat.eq_zero_or_pos i with rfl | h
  · exact ⟨h4, h5⟩
  · have := (h1 0 h).2
    rw [f0] at this; cases this
end Go.Proofs.YtgnbkepdbdgkdaaGreatDoor.Pl
/- Contracts of the functions of package strings that package act calls, at this seat's numbers. -/
namespace Go.Proofs
open Go.Shelf
def Tryz.lays112_ren : Go.Shelf.Ren := ⟨fun | 112 => 99 | n => n, fun | 28 => 28 | 3 => 3 | 4 => 4 | 0 => 0 | n => n, fun | n => n⟩
theorem Tryz.lays112 : Go.Proofs.Lays.n112 Tryz.prog Tryz.lays112_ren := {
  mixed := by kernel_rfl
  f112 := Tryz.func99.trans (congrArg some (by kernel_rfl))
  t0 := Tryz.underlying0
  a0 := Tryz.isAgg0
  z0 := Tryz.sizeOf0
  v0 := Tryz.zeroValue0
  t3 := Tryz.underlying3
  a3 := Tryz.isAgg3
  z3 := Tryz.sizeOf3
  v3 := Tryz.zeroValue3
  t4 := Tryz.underlying4
  a4 := Tryz.isAgg4
  z4 := Tryz.sizeOf4
  v4 := Tryz.zeroValue4
  t28 := Tryz.underlying28
  a28 := Tryz.isAgg28
  z28 := Tryz.sizeOf28
  v28 := Tryz.zeroValue28 }
open Go.RowKit Go.Lib Go.Sort in
theorem Tryz.slices_Reverse_int (blk off cap : Nat) (zs : List Int) (w : World) (hH : Holds (Value.int .i64) w blk off zs.toArray) (hsz : zs.length ≤ 9223372036854775807) :
    Calls Tryz.prog 99 #[.slice (some ⟨blk, off, none⟩) zs.length cap] w fun e w' => e = .returned (.tuple #[]) ∧ ∃ n, w' = putRow (Value.int .i64) (Sort.ahead w n) blk off zs.reverse.toArray := Any.slices_Reverse_int Tryz.lays112 blk off cap zs w hH hsz
open Go.RowKit Go.Lib Go.Sort in
theorem Tryz.slices_Reverse_int_empty (a : Option Addr) (cap : Nat) (w : World) :
    Calls Tryz.prog 99 #[.slice a 0 cap] w fun e w' => e = .returned (.tuple #[]) ∧ w' = w := Any.slices_Reverse_int_empty Tryz.lays112 a cap w
def Tryz.laysNm216_ren : Go.Shelf.Ren := ⟨fun | 16 => 47 | n => n, fun | 24 => 22 | 9 => 9 | 4 => 4 | n => n, fun | n => n⟩
theorem Tryz.laysNm216 : Go.Proofs.Lays2.n16 Tryz.prog Tryz.laysNm216_ren := {
  mixed := by kernel_rfl
  f16 := Tryz.func47.trans (congrArg some (by kernel_rfl))
  t4 := Tryz.underlying4
  a4 := Tryz.isAgg4
  z4 := Tryz.sizeOf4
  v4 := Tryz.zeroValue4
  t9 := Tryz.underlying9
  a9 := Tryz.isAgg9
  z9 := Tryz.sizeOf9
  v9 := Tryz.zeroValue9
  t24 := Tryz.underlying22
  a24 := Tryz.isAgg22
  z24 := Tryz.sizeOf22
  v24 := Tryz.zeroValue22
  i9 := by kernel_rfl }
open Go.RowKit Go.Lib in
theorem Tryz.slices_Clone_string (b off n c : Nat) (zs : List ByteArray) (w : World) (hz : n ≤ zs.length) (hbig : n * 16 ≤ 140737488355328) (hc : ∀ j, j < zs.length → w.cell? ⟨b, off + j, none⟩ = some (.string (zs.getD j ByteArray.empty))) :
    Calls Tryz.prog 47 #[.slice (some ⟨b, off, none⟩) n c] w fun e w' => ∃ v', e = .returned v' ∧ w'.ownsRow w.heap.size 9 1 v' n ((zs.take n).map (Value.string)) ∧ v' ≠ .slice none 0 0 ∧ Below w.heap.size w w' := Any.slices_Clone_string Tryz.laysNm216 b off n c zs w hz hbig hc
open Go.RowKit Go.Lib in
theorem Tryz.slices_Clone_string_nil (n c : Nat) (w : World) :
    Calls Tryz.prog 47 #[.slice none n c] w fun e w' => e = .returned (.slice none 0 0) ∧ w' = w := Any.slices_Clone_string_nil Tryz.laysNm216 n c w
open Go.RowKit Go.Lib in
theorem Tryz.slices_Clone_string_zero (a : Addr) (c : Nat) (w : World) :
    Calls Tryz.prog 47 #[.slice (some a) 0 c] w fun e w' => ∃ v', e = .returned v' ∧ w'.ownsRow w.heap.size 9 1 v' 0 [] ∧ v' ≠ .slice none 0 0 ∧ Below w.heap.size w w' := Any.slices_Clone_string_zero Tryz.laysNm216 a c w
end Go.Proofs
/- spell; noPairs. -/
namespace Go.Proofs.YtgnbkepdbdgkdaaGreatDoor
open Go.RowKit Go.Sort Pl

theorem grow_nil (W : World) : grow W #[] = W := by simp [grow]
/-- slices.Reverse of a row of the call's own -/
theorem rev_any {w : World} {base : Nat} {v : Value} {l : List Int} (h : NumO w base v l) (hl : l.length ≤ 10000000) :
    Calls Tryz.prog 99 #[v] w fun e w' => e = .returned (.tuple #[]) ∧ NumO w' base v l.reverse ∧ Below base w w' := by
  have hO := h
  rcases h.2 with ⟨rfl, h0⟩ | ⟨g, cap, cur, rfl, hg, hh, hc, hm, hsz, ht⟩
  · refine (Tryz.slices_Reverse_int_empty none 0 w).mono ?_
    rintro e w' ⟨rfl, rfl⟩
    have e1 : l = [] := List.length_eq_zero_iff.1 h0
    subst e1
    exact ⟨rfl, hO, Below.refl _ _⟩
  · have ht' : cur.toList.take l.length = l.map (Value.int .i64) := by rw [← ht, Nat.mul_one]
    have hC := Tryz.slices_Reverse_int g 0 cap l w (holds_of_blockI hh ht') (by omega)
    refine hC.mono ?_
    rintro e w' ⟨rfl, q, rfl⟩
    have hw := ownsRow_sortedI (n := q) (os := #[]) List.length_reverse hg hh hc hm hsz
    rw [grow_nil] at hw
    have hgr := grownBy_sortedI (w := w) (g := g) (n := q) (os := #[]) l.reverse.toArray
    rw [grow_nil] at hgr
    refine ⟨rfl, ?_, (Below.refl _ w).grown hgr (Nat.le_trans hg (Nat.le_of_lt (Array.getElem?_eq_some_iff.1 hh).1)) (fun k hk => by cases hk; exact hg)⟩
    unfold NumO
    rw [List.length_reverse]
    exact hw

/-! ### the queue in memory -/
def qcells (Q : List Wt) : List Value := Q.flatMap fun t => [.int .i64 t.before, .int .i64 t.last, .int .i64 t.x, .int .i64 t.y]
theorem qcells_length : ∀ Q : List Wt, (qcells Q).length = Q.length * 4
  | [] => rfl
  | t :: Q => by
    have := qcells_length Q
    simp only [qcells, List.flatMap_cons, List.length_append, List.length_cons, List.length_nil] at this ⊢
    omega
theorem qcells_at : ∀ (Q : List Wt) (k : Nat), k < Q.length → (qcells Q)[k * 4]? = some (.int .i64 (wtAt Q k).before) ∧ (qcells Q)[k * 4 + 1]? = some (.int .i64 (wtAt Q k).last) ∧ (qcells Q)[k * 4 + 2]? = some (.int .i64 (wtAt Q k).x) ∧ (qcells Q)[k * 4 + 3]? = some (.int .i64 (wtAt Q k).y)
  | [], _, h => by simp at h
  | t :: Q, 0, _ => by simp [qcells, wtAt]
  | t :: Q, k + 1, h => by
    have := qcells_at Q k (by simpa using h)
    have e : qcells (t :: Q) = .int .i64 t.before :: .int .i64 t.last :: .int .i64 t.x :: .int .i64 t.y :: qcells Q := rfl
    have e2 : wtAt (t :: Q) (k + 1) = wtAt Q k := by simp [wtAt, List.getD]
    rw [e, e2, show (k + 1) * 4 = k * 4 + 1 + 1 + 1 + 1 by omega]
    simpa using this
theorem qcells_snoc (Q : List Wt) (t : Wt) : qcells (Q ++ [t]) = qcells Q ++ [.int .i64 t.before, .int .i64 t.last, .int .i64 t.x, .int .i64 t.y] := by simp [qcells]
/-- places point back -/
def Bef (Q : List Wt) : Prop := ∀ k, k < Q.length → 0 < k → (wtAt Q k).before < k
theorem spell_fuel {Q : List Wt} (hb : Bef Q) : ∀ (p : Nat), p < Q.length → ∀ f, p ≤ f → spellQ Q f p = spellQ Q p p := by
  intro p
  induction p using Nat.strongRecOn with
  | ind p ih =>
    intro hp f hf
    rcases Nat.eq_zero_or_pos p with rfl | h0
    · cases f <;> rfl
    · obtain ⟨f', rfl⟩ : ∃ f', f = f' + 1 := ⟨f - 1, by omega⟩
      obtain ⟨p', rfl⟩ : ∃ p', p = p' + 1 := ⟨p - 1, by omega⟩
      have h1 := hb (p' + 1) hp h0
      unfold spellQ
      rw [if_neg (by omega), if_neg (by omega)]
      rw [ih _ h1 (by omega) f' (by omega), ih _ h1 (by omega) p' (by omega)]
theorem spell_next {Q : List Wt} (hb : Bef Q) {p : Nat} (hp : p < Q.length) (h0 : 0 < p) : spellQ Q p p = spellQ Q (wtAt Q p).before (wtAt Q p).before ++ [(wtAt Q p).last] := by
  obtain ⟨p', rfl⟩ : ∃ p', p = p' + 1 := ⟨p - 1, by omega⟩
  have h1 := hb (p' + 1) hp h0
  conv => lhs; unfold spellQ
  rw [if_neg (by omega), spell_fuel hb _ (by omega) p' (by omega)]
theorem spell_len {Q : List Wt} : ∀ f p, (spellQ Q f p).length ≤ f
  | 0, _ => by simp [spellQ]
  | f + 1, p => by
    unfold spellQ
    split
    · simp
    · have := spell_len (Q := Q) f (wtAt Q p).before
      simp; omega

set_option maxRecDepth 100000 in
set_option maxHeartbeats 4000000 in
theorem spell_any {w : World} {B gq n c i : Nat} {Q : List Wt} (h : w.ownsRow B 133 4 (.slice (some ⟨gq, 0, none⟩) n c) n (qcells Q)) (hn : Q.length = n) (hb : Bef Q) (hi : i < n) (h6 : n ≤ 3000000) :
    Calls Tryz.prog 65 #[.slice (some ⟨gq, 0, none⟩) n c, .int .i64 i] w fun e w' => ∃ v, e = .returned v ∧ NumO w' w.heap.size v (spellQ Q i i) ∧ Below w.heap.size w w' := by
  obtain ⟨i1, hi1, hz10, hz11, hz12⟩ := info_parts infoNumS
  have H := Lib.hid h
  have HN := Lib.hid hn
  have HB := Lib.hid hb
  clear h hn hb
  go_enter Tryz.func65, Tryz.ntmps65
  go_wp2
  go_loopw [1, 5] (fun pv v wr => ∃ (p : Nat) (l : List Int), pv = .int .i64 p ∧ p + l.length ≤ i ∧ Hid (NumO wr w.heap.size v l) ∧ Hid (spellQ Q i i = spellQ Q p p ++ l.reverse) ∧ Hid (Below w.heap.size w wr)) (fun pv _ _ => (intOf pv).toNat)
  case atStart => exact ⟨i, [], rfl, by simp, Lib.hid (World.ownsRow_nil _ _ _ _), Lib.hid (by simp), Lib.hid (Below.refl _ _)⟩
  case round =>
    obtain ⟨p, l, rfl, hp, hl, hs, hb⟩ := hrel
    have hzr := hb.out.size
    obtain ⟨va, vc, rfl⟩ := own_slice' hl.out
    by_cases h0 : 0 < p
    · have hpn : p < n := by omega
      have hq := (H.out.kept (below_grown' hb.out) (by cases (Value.slice (some ⟨gq, 0, none⟩) n c).ownBlock <;> simp))
      obtain ⟨e0, e1, _, _⟩ := qcells_at Q p (by have := HN.out; omega)
      have c0 := hq.cellAt (p * 4) (by omega)
      have c1 := hq.cellAt (p * 4 + 1) (by omega)
      rw [e0] at c0
      rw [e1] at c1
      have hbf := HB.out p (by have := HN.out; omega) h0
      obtain ⟨bf, HBf⟩ : ∃ z, Hid ((wtAt Q p).before = z) := ⟨_, Lib.hid rfl⟩
      obtain ⟨la, HLa⟩ : ∃ z, Hid ((wtAt Q p).last = z) := ⟨_, Lib.hid rfl⟩
      rw [HBf.out] at c0 hbf
      rw [HLa.out] at c1
      have HS2 : Hid (spellQ Q i i = spellQ Q bf bf ++ (l ++ [la]).reverse) := Lib.hid (by
        rw [hs.out, spell_next HB.out (by have := HN.out; omega) h0, HBf.out, HLa.out]
        simp)
      have HOW := Lib.hid (hl.out.alloc (.cells #[.int .i64 la] 3))
      have c0' := cell_new c0 (.cells #[.int .i64 la] 3)
      have p0 : (0 : Int) < (p : Int) := by omega
      have p1 : (p : Int) < (n : Int) := by omega
      have p2 : (0 : Int) ≤ (p : Int) := by omega
      clear hq e0 e1
      go_wp2_with (at_builtin; (refine wpList_append_sz rfl (.tmp 14) (.tmp 21) 28 rfl w.heap.size 3 i1 (.int .i64 0) 1 8 Tryz.underlying28 hi1 hz10 hz11 hz12 rfl (by decide) (.slice va l.length vc) rfl l.length (l.map (Value.int .i64)) HOW.out (some ⟨wr.heap.size, 0, none⟩) 1 1 rfl [.int .i64 la] (fun h => by cases h) rfl (one_src _ _ _) (by simp [Value.oneCell']) (by unfold maxLen; omega) (by omega) (by simp; omega) ?_); intro v2 w2 hv2 hg2 hat2; refine Hid.out ?_)
      refine Lib.hid ?_
      have hb2 : Below w.heap.size w w2 := (hb.out.alloc hzr (.cells #[.int .i64 la] 3)).grown hg2 (by simp; omega) (own_ge HOW.out)
      have HB2 := Lib.hid hb2
      have HV2 : Hid (NumO w2 w.heap.size v2 (l ++ [la])) := Lib.hid (by unfold NumO; rw [List.length_append, List.map_append]; exact hv2)
      have hq2 := (H.out.kept (below_grown' hb2) (by cases (Value.slice (some ⟨gq, 0, none⟩) n c).ownBlock <;> simp))
      have c2 := hq2.cellAt (p * 4) (by omega)
      obtain ⟨e0, _, _, _⟩ := qcells_at Q p (by have := HN.out; omega)
      rw [e0, HBf.out] at c2
      clear hv2 hg2 hat2 hb2 hq2 e0 c0 c0' c1
      go_wp2
      go_roundw
      case rel => exact ⟨bf, l ++ [la], rfl, by simp; omega, HV2, HS2, HB2⟩
      case measure => simp [intOf]; omega
    · have hp0 : p = 0 := by omega
      subst hp0
      have HS2 : Hid (spellQ Q i i = l.reverse) := Lib.hid (by rw [hs.out]; simp [spellQ])
      have HR := Lib.hid (rev_any hl.out (by omega))
      go_wp2_with fail
      refine HR.out.mono ?_
      rintro e w2 ⟨rfl, hv2, hb2⟩
      have HV2 := Lib.hid hv2
      have HB2 := Lib.hid (hb.out.trans hb2)
      clear hv2 hb2
      go_wp2
      go_ret
      exact ⟨_, rfl, by rw [HS2.out]; exact HV2.out, HB2.out⟩
end Go.Proofs.YtgnbkepdbdgkdaaGreatDoor
/- Plain facts: what shows that a system does not satisfy a specification; nothing here is about a program. -/
namespace Go.Proofs.YtgnbkepdbdgkdaaGreatDoor.Pl
open Go Go.Lib

/-- a state of the system offers what a state of the specification, or none, accepts -/
def goodB (m : Syst) (s : Spc) (x : Nat) (y : Int) : Bool := decide (0 ≤ y) && fitB m s x y.toNat
def badB (m : Syst) (s : Spc) (l : List Nat) (y : Int) : Bool := l.any fun x => !goodB m s x y
def nextI (s : Spc) (y a : Int) : Int := (teAt s.states y.toNat).2.getD a.toNat 0
/-- along a list: the states of the system, and the one of the specification; nothing where the list is no fault -/
def faultF (m : Syst) (s : Spc) : List Int → List Nat → Int → Option (List Nat × Int)
  | [], l, y => some (l, y)
  | a :: w, l, y => if l = [] ∨ badB m s l y = true then none else if nextI s y a < 0 ∧ nextL m.states l a = [] then none else faultF m s w (nextL m.states l a) (nextI s y a)
def faultB (m : Syst) (s : Spc) (word : List Int) (at_ : Int) : Bool :=
  actsK m.acts.length word && match faultF m s word [0] 0 with
  | none => false
  | some (l, y) => decide (at_ ∈ l.map (fun (x : Nat) => (x : Int))) && !goodB m s at_.toNat y
theorem faultF_stop {m : Syst} {s : Spc} {a : Int} {w : List Int} {l : List Nat} {y : Int} (h : l = [] ∨ badB m s l y = true) : faultF m s (a :: w) l y = none := by
  unfold faultF
  rw [if_pos h]
theorem faultF_lost {m : Syst} {s : Spc} {a : Int} {w : List Int} {l : List Nat} {y : Int} (h : ¬ (l = [] ∨ badB m s l y = true)) (h2 : nextI s y a < 0 ∧ nextL m.states l a = []) : faultF m s (a :: w) l y = none := by
  unfold faultF
  rw [if_neg h, if_pos h2]
theorem faultF_go {m : Syst} {s : Spc} {a : Int} {w : List Int} {l : List Nat} {y : Int} (h : ¬ (l = [] ∨ badB m s l y = true)) (h2 : ¬ (nextI s y a < 0 ∧ nextL m.states l a = [])) : faultF m s (a :: w) l y = faultF m s w (nextL m.states l a) (nextI s y a) := by
  rw [faultF, if_neg h, if_neg h2]
theorem good_pos {m : Syst} {s : Spc} {l : List Nat} {y : Int} (h : ¬ (l = [] ∨ badB m s l y = true)) : 0 ≤ y := by
  cases l with
  | nil => exact absurd (.inl rfl) h
  | cons x l =>
    have h1 : ¬ badB m s (x :: l) y = true := fun e => h (.inr e)
    unfold badB at h1
    rw [List.any_cons, Bool.or_eq_true, not_or] at h1
    have h2 := h1.1
    unfold goodB at h2
    rcases Int.lt_or_le y 0 with h3 | h3
    · rw [decide_eq_false (by omega)] at h2
      simp at h2
    · exact h3
theorem nextI_rng {s : Spc} (hv : spcB s = true) {y a : Int} (hy : 0 ≤ y ∧ y < s.states.length) (ha : 0 ≤ a ∧ a < s.acts.length) : -1 ≤ nextI s y a ∧ nextI s y a < s.states.length ∧ a.toNat < (teAt s.states y.toNat).2.length := by
  have h := ((spcB_iff s).1 hv).2.2.2 y.toNat (by omega)
  unfold steB at h
  rw [Bool.and_eq_true, nextB_iff] at h
  have h2 := h.1.2 a.toNat (by rw [h.1.1]; omega)
  rw [okNext_iff] at h2
  exact ⟨h2.1, h2.2, by rw [h.1.1]; omega⟩
end Go.Proofs.YtgnbkepdbdgkdaaGreatDoor.Pl
/- Words of actions: terms.IsWord, the reference's Word. -/
namespace Go.Proofs.YtgnbkepdbdgkdaaGreatDoor
open Go.RowKit Pl

theorem IsWord_any {w : World} {wa : Option Addr} {wn wc : Nat} {word : List Int} (n : Nat) (_hn : n ≤ 9223372036854775807) (L : IntArg w wa wn wc word) :
    Calls Tryz.prog 58 #[.slice wa wn wc, .int .i64 n] w fun e w' => e = .returned (.bool (wordB n word)) ∧ w = w' := by
  have HL := Lib.hid L
  have HLL := Lib.hid L.len
  have hwn : wn ≤ 9223372036854775807 := L.big
  clear L
  by_cases h4 : wn ≤ 10000
  · have HV : Hid (wordB n word = actsK n word) := Lib.hid (by unfold wordB; rw [decide_eq_true (by have := HLL.out; omega)]; rfl)
    go_enter Tryz.func58, Tryz.ntmps58
    go_wp2
    go_loop [6, 12] (fun _ i => ∃ j : Nat, j ≤ wn ∧ i = .int .i64 j ∧ Hid (∀ x, x < j → 0 ≤ word.getD x 0 ∧ word.getD x 0 < n)) (fun _ i => wn - (intOf i).toNat)
    case atStart => exact ⟨0, Nat.zero_le _, rfl, Lib.hid fun x hx => by omega⟩
    case round =>
      obtain ⟨j, hj, rfl, hg⟩ := hrel
      by_cases hlt : j < wn
      · obtain ⟨bl, ol, rfl, c1⟩ := HL.out.cells j (by have := HLL.out; omega)
        obtain ⟨x, HX⟩ : ∃ x, Hid (word.getD j 0 = x) := ⟨_, Lib.hid rfl⟩
        rw [HX.out] at c1
        by_cases hx0 : x < 0
        · have HB : Hid (wordB n word = false) := Lib.hid (by rw [HV.out]; exact actsK_bad (k := j) (by have := HLL.out; omega) (actK_no (.inl (by rw [HX.out]; exact hx0))))
          go_wp2
          go_ret
          exact ⟨by rw [HB.out]; rfl, rfl⟩
        · by_cases hx1 : (n : Int) ≤ x
          · have HB : Hid (wordB n word = false) := Lib.hid (by rw [HV.out]; exact actsK_bad (k := j) (by have := HLL.out; omega) (actK_no (.inr (by rw [HX.out]; exact hx1))))
            go_wp2
            go_ret
            exact ⟨by rw [HB.out]; rfl, rfl⟩
          · have HG : Hid (∀ z, z < j + 1 → 0 ≤ word.getD z 0 ∧ word.getD z 0 < n) := Lib.hid fun z hz => by
              by_cases e : z = j
              · rw [e, HX.out]; omega
              · exact hg.out z (by omega)
            go_wp2
            go_round
            case rel => exact ⟨j + 1, by omega, by go_num, HG⟩
            case measure => simp [intOf]; omega
      · have HB : Hid (wordB n word = true) := Lib.hid (by rw [HV.out]; exact (actsK_iff n word).2 (fun z hz => hg.out z (by have := HLL.out; omega)))
        go_wp2
        go_ret
        exact ⟨by rw [HB.out]; rfl, rfl⟩
  · have HB : Hid (wordB n word = false) := Lib.hid (by unfold wordB; rw [decide_eq_false (by have := HLL.out; omega)]; rfl)
    go_enter Tryz.func58, Tryz.ntmps58
    go_wp2
    go_ret
    exact ⟨by rw [HB.out]; rfl, rfl⟩
end Go.Proofs.YtgnbkepdbdgkdaaGreatDoor
/- The reference's Offer. -/
namespace Go.Proofs.YtgnbkepdbdgkdaaGreatDoor
open Go.RowKit Pl

end Go.Proofs.YtgnbkepdbdgkdaaGreatDoor
/- The reference's In, Accepts, good, bad. -/
namespace Go.Proofs.YtgnbkepdbdgkdaaGreatDoor
open Go.RowKit Pl

set_option maxHeartbeats 1000000 in
theorem In_any {w : World} {a : Option Addr} {n c : Nat} {xs : List Int} (A : IntArg w a n c xs) (x : Int) :
    Calls Tryz.prog 20 #[.slice a n c, .int .i64 x] w fun e w' => e = .returned (.bool (decide (x ∈ xs))) ∧ w = w' := by
  have HA := Lib.hid A
  have hn : n ≤ 9223372036854775807 := A.big
  clear A
  go_enter Tryz.func20, Tryz.ntmps20
  go_wp2
  go_loop [6, 9] (fun _ p => ∃ j : Nat, j ≤ n ∧ p = .int .i64 j ∧ Hid (x ∉ xs.take j)) (fun _ p => n - (intOf p).toNat)
  case atStart => exact ⟨0, Nat.zero_le _, rfl, Lib.hid (by simp)⟩
  case round =>
    obtain ⟨j, hj, rfl, hne⟩ := hrel
    by_cases hlt : j < n
    · have hjx : j < xs.length := by have := HA.out.len; omega
      obtain ⟨b, off, rfl, c1⟩ := HA.out.cells j hjx
      obtain ⟨y, HY⟩ : ∃ y, Hid (xs.getD j 0 = y) := ⟨_, Lib.hid rfl⟩
      change w.cell? _ = some (.int .i64 (xs.getD j 0)) at c1
      rw [HY.out] at c1
      have HT := Lib.hid (take_next xs j 0 hjx)
      by_cases he : x = y
      · have hq : (x == y) = true := by rw [he]; simp
        have HM : Hid (decide (x ∈ xs) = true) := Lib.hid (decide_eq_true (by
          rw [he, ← HY.out, List.getD_eq_getElem?_getD, List.getElem?_eq_getElem hjx]
          exact List.getElem_mem hjx))
        subst he
        go_wp2
        go_ret
        exact ⟨by rw [HM.out]; rfl, rfl⟩
      · have hq : (x == y) = false := by rw [beq_eq_false_iff_ne]; exact he
        have HN : Hid (x ∉ xs.take (j + 1)) := Lib.hid (by
          rw [HT.out, List.mem_append, List.mem_singleton, HY.out]
          rintro (h | h)
          · exact hne.out h
          · exact he h)
        clear hjx
        go_wp2
        go_round
        case rel => exact ⟨j + 1, by omega, by go_num, HN⟩
        case measure => simp [intOf]; omega
    · have HM : Hid (decide (x ∈ xs) = false) := Lib.hid (decide_eq_false (by
        have := hne.out
        rwa [List.take_of_length_le (by have := HA.out.len; omega)] at this))
      go_wp2
      go_ret
      exact ⟨by rw [HM.out]; rfl, rfl⟩

theorem fit_off (m : Syst) (s : Spc) (x y : Nat) : fitB m s x y = decide ((offN (stAt m.states x) : Int) ∈ (teAt s.states y).1) := rfl

end Go.Proofs.YtgnbkepdbdgkdaaGreatDoor
/- The reference's List. -/
namespace Go.Proofs.YtgnbkepdbdgkdaaGreatDoor
open Go.RowKit Pl

theorem own_geL {W : World} {base : Nat} {e : TypeId} {size n : Nat} {v : Value} {xs : List Value} (h : W.ownsRow base e size v n xs) : ∀ k, v.ownBlock = some k → base ≤ k := by
  intro k hk
  rcases h.2 with ⟨rfl, rfl⟩ | ⟨g, cap, cur, rfl, hg, _⟩
  · cases hk
  · cases hk
    exact hg
theorem infoIntL : (Tryz.prog.info? 3).map (fun i => (i.zero, i.size, i.bytes)) = some (some (.int .i64 0), 1, 8) := by kernel_rfl
/-- the members of y below n, as the reference runs through them -/
def bitsL (n y : Nat) : List Nat := (List.range n).filter fun k => y.testBit k
theorem bitsL_yes (n y : Nat) (h : y.testBit n = true) : bitsL (n + 1) y = bitsL n y ++ [n] := by
  simp only [bitsL, List.range_succ, List.filter_append, List.filter_cons, List.filter_nil, h, if_true]
theorem bitsL_no (n y : Nat) (h : y.testBit n = false) : bitsL (n + 1) y = bitsL n y := by
  simp only [bitsL, List.range_succ, List.filter_append, List.filter_cons, List.filter_nil, h, Bool.false_eq_true, if_false, List.append_nil]
theorem bitsL_len (n y : Nat) : (bitsL n y).length ≤ n := by
  have := List.length_filter_le (fun k => y.testBit k) (List.range n)
  rwa [List.length_range] at this
theorem bitsL_lt {n y k : Nat} (h : k ∈ bitsL n y) : k < n := List.mem_range.1 (List.mem_filter.1 h).1
end Go.Proofs.YtgnbkepdbdgkdaaGreatDoor
