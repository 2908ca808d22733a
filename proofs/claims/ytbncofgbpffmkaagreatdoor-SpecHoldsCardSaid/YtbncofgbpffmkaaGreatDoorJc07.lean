/- Texts joined: PCheck, Copy, StepPl. -/
import Derived.Test.YtbncofgbpffmkaaGreatDoorJc04
import Derived.Test.YtbncofgbpffmkaaGreatDoorJc06
import Derived.Deep.RegionLaw
import Derived.Test.YtbncofgbpffmkaaGreatDoorJc01
/- spec.Check. -/
namespace Go.Proofs.YtbncofgbpffmkaaGreatDoor
open Go.RowKit Pl

def chkS (s : Spc) : Int := if spcB s = true then 0 else 30
theorem chkS_yes {s : Spc} (h : spcB s = true) : chkS s = 0 := if_pos h
theorem chkS_no {s : Spc} (h : spcB s = false) : chkS s = 30 := by unfold chkS; rw [h]; rfl
theorem steB_next {na ns : Nat} {t : Ste} (h : nextB na ns t.2 = false) : steB na ns t = false := by simp [steB, h]
theorem steB_acc {na ns : Nat} {t : Ste} (h : accB t.1 t.2 = false) : steB na ns t = false := by simp [steB, h]
set_option maxHeartbeats 2000000 in
theorem PCheck_any {w : World} {a : Option Addr} {n c : Nat} {b : Option Addr} {k d : Nat} {s : Spc} {e0 e1 e2 : Addr} (E : Errs w e0 e1 e2) (A : SpecArg w a n c b k d s) :
    Calls Tryz.prog 38 #[.agg #[.slice a n c, .slice b k d]] w fun e w' => e = .returned (.int .i64 (chkS s)) ∧ Below w.heap.size w w' := by
  have hB := (Below.refl w.heap.size w).alloc (Nat.le_refl _) (.cells #[.slice a n c, .slice b k d] 28)
  have HC := Lib.hid (Check_any (E.below hB) (A.acts.below hB))
  have HA := Lib.hid A
  have h1 : n ≤ 140737488355328 := A.abig
  have h2 : k ≤ 140737488355328 := A.big
  have HBB := Lib.hid hB
  clear A hB E
  cases ha : actsB s.acts
  · have HV := Lib.hid (chkS_no (spcB_acts ha))
    rw [ha] at HC
    clear ha
    go_enter Tryz.func38, Tryz.ntmps38
    go_wp2_with fail
    refine HC.out.mono ?_
    rintro e w' ⟨rfl, rfl⟩
    go_wp2
    go_ret
    exact ⟨by rw [HV.out]; rfl, HBB.out⟩
  · rw [ha] at HC
    have HAC := Lib.hid ha
    have h8 := ((actsB_iff s.acts).1 ha).1
    clear ha
    by_cases hk : 1 ≤ k ∧ k ≤ 500
    · obtain ⟨hk1, hk2⟩ := hk
      go_enter Tryz.func38, Tryz.ntmps38
      go_wp2_with fail
      refine HC.out.mono ?_
      rintro e w' ⟨rfl, rfl⟩
      go_wp2
      go_loopw [4, 24] (fun _ i wr => ∃ j : Nat, j ≤ k ∧ i = .int .i64 j ∧ Hid (∀ x, x < j → steB s.acts.length s.states.length (teAt s.states x) = true) ∧ Below (w.heap.size + 1) (w.alloc (.cells #[.slice a n c, .slice b k d] 28)) wr) (fun _ i _ => k - (intOf i).toNat)
      case atStart => exact ⟨0, Nat.zero_le _, rfl, Lib.hid fun x hx => by omega, Below.refl _ _⟩
      case round =>
        obtain ⟨j, hj, rfl, ht, hb⟩ := hrel
        have q0 : wr.cell? ⟨w.heap.size, 0, none⟩ = some (.slice a n c) := by rw [hb.cell (by simp)]; simp
        have q1 : wr.cell? ⟨w.heap.size, 1, none⟩ = some (.slice b k d) := by rw [hb.cell (by simp)]; simp
        have q2 : w.heap.size < wr.heap.size := lt_of_cell q0
        have HBr := Lib.hid hb
        have HBw := Lib.hid (HBB.out.trans (hb.mono (by omega)))
        clear hb
        by_cases hlt : j < k
        · obtain ⟨bb, off, rfl, a1, n1, c1, a2, n2, c2, d1, d2, hN1, hN2⟩ := (HA.out.rows.below HBw.out) j (by have := HA.out.len; omega)
          have hbl : Below wr.heap.size wr (wr.alloc (.cells #[.slice a1 n1 c1, .slice a2 n2 c2] 52)) := (Below.refl _ wr).alloc (Nat.le_refl _) _
          have HX := Lib.hid (isNext_any n k (by omega) (by omega) (hN2.arg.below hbl))
          have HY := fun h8 => isAccept_any (hN1.below hbl) (hN2.arg.below hbl) h8
          have HBe := Lib.hid (HBr.out.alloc (Nat.le_trans (by simp) HBr.out.size) (.cells #[.slice a1 n1 c1, .slice a2 n2 c2] 52))
          have HBf := Lib.hid (HBw.out.alloc HBw.out.size (.cells #[.slice a1 n1 c1, .slice a2 n2 c2] 52))
          clear hN1 hN2 hbl
          cases hnx : nextB n k (teAt s.states j).2
          · have HV := Lib.hid (chkS_no (s := s) (spcB_ste j (by have := HA.out.len; omega) (steB_next (by rw [← HA.out.len, ← HA.out.acts.len]; exact hnx))))
            rw [hnx] at HX
            clear hnx
            go_wp2_with fail
            refine HX.out.mono ?_
            rintro e w' ⟨rfl, rfl⟩
            go_wp2
            go_ret
            exact ⟨by rw [HV.out]; rfl, HBf.out⟩
          · have hlen := ((nextB_iff _ _ _).1 hnx).1
            have HY := Lib.hid (HY (by have := HA.out.acts.len; omega))
            rw [hnx] at HX
            cases hac : accB (teAt s.states j).1 (teAt s.states j).2
            · have HV := Lib.hid (chkS_no (s := s) (spcB_ste j (by have := HA.out.len; omega) (steB_acc hac)))
              rw [hac] at HY
              clear hnx hac hlen
              go_wp2_with fail
              refine HX.out.mono ?_
              rintro e w' ⟨rfl, rfl⟩
              go_wp2_with fail
              refine HY.out.mono ?_
              rintro e w' ⟨rfl, rfl⟩
              go_wp2
              go_ret
              exact ⟨by rw [HV.out]; rfl, HBf.out⟩
            · have HG : Hid (∀ x, x < j + 1 → steB s.acts.length s.states.length (teAt s.states x) = true) := Lib.hid fun x hx => by
                by_cases e : x = j
                · rw [e]
                  unfold steB
                  rw [← HA.out.len, ← HA.out.acts.len, hnx, hac]
                  rfl
                · exact ht.out x (by omega)
              rw [hac] at HY
              clear hnx hac hlen
              go_wp2_with fail
              refine HX.out.mono ?_
              rintro e w' ⟨rfl, rfl⟩
              go_wp2_with fail
              refine HY.out.mono ?_
              rintro e w' ⟨rfl, rfl⟩
              go_wp2
              go_roundw
              case rel => exact ⟨j + 1, by omega, by go_num, HG, HBe.out⟩
              case measure => simp [intOf]; omega
        · have HV := Lib.hid (chkS_yes (s := s) ((spcB_iff s).2 ⟨HAC.out, by have := HA.out.len; omega, by have := HA.out.len; omega, fun i hi => ht.out i (by have := HA.out.len; omega)⟩))
          go_wp2
          go_ret
          exact ⟨by rw [HV.out]; rfl, HBw.out⟩
    · have HV : Hid (chkS s = 30) := Lib.hid (by
        by_cases h : k < 1
        · exact chkS_no (spcB_few (by have := HA.out.len; omega))
        · exact chkS_no (spcB_many (by have := HA.out.len; omega)))
      by_cases hk1 : k < 1
      · go_enter Tryz.func38, Tryz.ntmps38
        go_wp2_with fail
        refine HC.out.mono ?_
        rintro e w' ⟨rfl, rfl⟩
        go_wp2
        go_ret
        exact ⟨by rw [HV.out]; rfl, HBB.out⟩
      · have hk2 : 500 < k := by omega
        go_enter Tryz.func38, Tryz.ntmps38
        go_wp2_with fail
        refine HC.out.mono ?_
        rintro e w' ⟨rfl, rfl⟩
        go_wp2
        go_ret
        exact ⟨by rw [HV.out]; rfl, HBB.out⟩
end Go.Proofs.YtbncofgbpffmkaaGreatDoor
/- The reference's Copy: the same system in new memory. -/
namespace Go.Proofs.YtbncofgbpffmkaaGreatDoor
open Go.RowKit Pl

theorem infoString : (Tryz.prog.info? 9).map (fun i => (i.zero, i.size, i.bytes)) = some (some (.string ⟨#[]⟩), 1, 16) := by kernel_rfl
theorem infoEdge : (Tryz.prog.info? 58).map (fun i => (i.zero, i.size, i.bytes)) = some (some (.agg #[.int .i64 0, .int .i64 0]), 2, 16) := by kernel_rfl
theorem infoRow : (Tryz.prog.info? 50).map (fun i => (i.zero, i.size, i.bytes)) = some (some (.slice none 0 0), 1, 24) := by kernel_rfl
theorem row_le (ss : List (List Edg)) (i : Nat) (h : i < ss.length) : (stAt ss i).length ≤ total ss := by
  have h1 := total_take ss i h
  have h2 := total_take_le ss (i + 1)
  omega
theorem strs_src {w : World} {a : Option Addr} {n c : Nat} {ss : List ByteArray} (A : StrArg w a n c ss) : SrcAt w a (ss.map Value.string) := fun j u hu => by
  have hj : j < ss.length := by simpa using (List.getElem?_eq_some_iff.1 hu).1
  obtain ⟨b, off, rfl, hc⟩ := A.cells j hj
  refine ⟨_, rfl, ?_⟩
  rw [add_plainly, hc, ← hu, List.getElem?_map, List.getElem?_eq_getElem hj]
  simp [List.getD, hj]
theorem strs_one (ss : List ByteArray) : ∀ u ∈ ss.map Value.string, u.oneCell' = true := fun u hu => by
  obtain ⟨x, _, rfl⟩ := List.mem_map.1 hu
  rfl
theorem StrArg.nils {w : World} {a : Option Addr} {n c : Nat} {ss : List ByteArray} (A : StrArg w a n c ss) : a = none → n = 0 ∧ c = 0 := fun h => by
  have := A.nil h
  have := A.cap
  omega
theorem EdgeArg.nils {w : World} {a : Option Addr} {n c : Nat} {l : List Edg} (A : EdgeArg w a n c l) : a = none → n = 0 ∧ c = 0 := fun h => by
  have := A.nil h
  have := A.cap
  omega
theorem one_src (W : World) (v : Value) (t : TypeId) : SrcAt (W.alloc (.cells #[v] t)) (some ⟨W.heap.size, 0, none⟩) [v] := fun j u hu => by
  have hj : j = 0 := by
    have := (List.getElem?_eq_some_iff.1 hu).1
    simp at this
    exact this
  subst hj
  simp only [List.getElem?_cons_zero, Option.some.injEq] at hu
  subst hu
  refine ⟨_, rfl, ?_⟩
  rw [add_plainly, (Whole.new W t #[v]).cell]
  rfl

theorem own_slice {W : World} {base : Nat} {e : TypeId} {size n : Nat} {v : Value} {xs : List Value} (h : W.ownsRow base e size v n xs) : ∃ a c, v = .slice a n c := by
  rcases h.2 with ⟨rfl, rfl⟩ | ⟨g, cap, cur, rfl, _⟩
  · exact ⟨none, 0, rfl⟩
  · exact ⟨_, cap, rfl⟩
/-- what a row holds is told by the memory -/
theorem own_eq {W : World} {base base' : Nat} {e e' : TypeId} {size n : Nat} {v : Value} {xs xs' : List Value} (h : W.ownsRow base e size v n xs) (h' : W.ownsRow base' e' size v n xs') : xs = xs' := by
  have l1 := h.1
  have l2 := h'.1
  rcases h.2 with ⟨rfl, h0⟩ | ⟨g, cap, cur, rfl, _, hh, _, _, _, ht⟩
  · subst h0
    rw [List.length_eq_zero_iff.1 (l1.trans (Nat.zero_mul _)), List.length_eq_zero_iff.1 (l2.trans (Nat.zero_mul _))]
  · rcases h'.2 with ⟨h1, h0⟩ | ⟨g', cap', cur', h1, _, hh', _, _, _, ht'⟩
    · cases h1
    · cases h1
      rw [hh] at hh'
      cases hh'
      exact ht.symm.trans ht'
theorem own_up {w w' : World} {base : Nat} {e : TypeId} {size n : Nat} {v : Value} {xs : List Value} (h : w.ownsRow base e size v n xs) (hg : w.grownBy w' none) : w'.ownsRow base e size v n xs :=
  h.kept hg (by cases v.ownBlock <;> simp)
theorem grown_drew {w w' : World} {row : Option Nat} (h : w.drew.grownBy w' row) : w.grownBy w' row := ⟨h.os, h.tape, h.output, h.size, h.block⟩
theorem below_up {w w' : World} (hg : w.grownBy w' none) : Below w.heap.size w w' := (Below.refl _ w).grown hg (Nat.le_refl _) (fun k hk => by cases hk)
theorem below_grown {w w' : World} (hb : Below w.heap.size w w') : w.grownBy w' none := ⟨hb.os, hb.tape, hb.output, hb.size, fun k hk _ => hb.block k hk⟩
theorem pack_at1 {w : World} {g : Nat} {t : TypeId} {x y : Value} (h : Whole w g t #[x, y]) : Whole w g t #[x, y] ∧ w.cell? ⟨g, 1, none⟩ = some y ∧ w.frozen? ⟨g, 1, none⟩ = false := ⟨h, h.cell 1, h.frozen 1⟩
/-- where Copy stands behind j states -/
structure CopyAt (w : World) (B3 : Nat) (box : Array Value) (va : Value) (m : Syst) (j : Nat) (vs : Value) (wr : World) : Prop where
  box : Whole wr w.heap.size 25 box
  res : Whole wr (w.heap.size + 1) 25 #[.slice none 0 0, .slice none 0 0]
  out : Whole wr B3 25 #[va, vs]
  rows : RowsOwn wr w.heap.size vs (m.states.take j)
  acts : wr.ownsRow w.heap.size 9 1 va m.acts.length (m.acts.map Value.string)
  lo : w.heap.size + 1 < B3
  below : Below w.heap.size w wr
/-- one state more -/
theorem CopyAt.next {w wr wA wB : World} {B3 : Nat} {box : Array Value} {va vs v1 v2 : Value} {m : Syst} {j : Nat} {t : TypeId} (h : CopyAt w B3 box va m j vs wr) (hj : j < m.states.length)
    (hA : EdgeOwn wA w.heap.size v1 (stAt m.states j)) (hgA : wr.grownBy wA none) (hgB : (wA.alloc (.cells #[v1] t)).grownBy wB vs.ownBlock)
    (hB : ∀ rows, (wA.alloc (.cells #[v1] t)).ownsRow w.heap.size 50 1 vs j rows → rows.length = j → wB.ownsRow w.heap.size 50 1 v2 (j + 1) (rows ++ [v1])) :
    CopyAt w B3 box va m (j + 1) v2 (wB.setCell ⟨B3, 1, none⟩ v2) := by
  have hl : (m.states.take j).length = j := by rw [List.length_take]; omega
  have bA := below_up hgA
  have bA' := bA.trans (((Below.refl _ wA).alloc (Nat.le_refl _) (.cells #[v1] t)).mono bA.size)
  have rA := h.rows.below bA'
  have oA := own_up (own_up h.acts hgA) (below_grown ((Below.refl _ wA).alloc (Nat.le_refl _) (.cells #[v1] t)))
  obtain ⟨rows, r1, r2, r3⟩ := rA
  have lo := h.lo
  have z := h.out.lt
  have n1 : ∀ g cs, Whole wr g 25 cs → Whole wB g 25 cs := fun g cs hw => by
    have h1 := hw.below bA' hw.lt
    exact h1.grown hgB (own_whole r2 h1 (by decide))
  have hs := RowsOwn.snoc (w := wA.alloc (.cells #[v1] t)) (w' := wB) (v' := v2) ⟨rows, r1, r2, r3⟩ (hA.alloc _) hgB (fun rows' h1 h2 => by
    rw [hl] at h1 h2 ⊢
    exact hB rows' h1 h2)
  have et : m.states.take (j + 1) = m.states.take j ++ [stAt m.states j] := take_next m.states j [] hj
  have hw := n1 _ _ h.out
  have hg2 := grown_self wB ⟨B3, 1, none⟩ v2
  have hb2 : w.heap.size ≤ wB.heap.size := Nat.le_trans (Nat.le_trans h.below.size bA'.size) hgB.size
  refine ⟨(n1 _ _ h.box).far (by simp; omega) _, (n1 _ _ h.res).far (by simp; omega) _, by simpa using hw.set 1 v2, ?_, ?_, lo, ?_⟩
  · rw [et]
    exact hs.kept hg2 (.inr (own_whole hs.choose_spec.2.1 hw (by decide)).symm) (fun r l hr => .inr (own_whole hr hw (by decide)).symm)
  · exact own_stored (oA.kept hgB (own_apart oA r2 (by decide))) hw (by decide)
  · exact ((h.below.trans (bA'.mono h.below.size)).grown hgB (Nat.le_trans h.below.size bA'.size) (own_ge r2)).setCell (by simp; omega) _
theorem CopyAt.drew {w wr : World} {B3 : Nat} {box : Array Value} {va vs : Value} {m : Syst} {j : Nat} (h : CopyAt w B3 box va m j vs wr) : CopyAt w B3 box va m j vs wr.drew :=
  ⟨h.box, h.res, h.out, h.rows, h.acts, h.lo, h.below.drew⟩

set_option maxRecDepth 100000 in
set_option maxHeartbeats 4000000 in
theorem Copy_any {w : World} {a : Option Addr} {n c : Nat} {b : Option Addr} {k d : Nat} {m : Syst} (A : SysArg w a n c b k d m) (hq : m.acts.length + m.states.length + total m.states ≤ 1000000) :
    Calls Tryz.prog 8 #[.agg #[.slice a n c, .slice b k d]] w fun e w' => ∃ va vs, e = .returned (.agg #[va, vs]) ∧ SysOwn w' w.heap.size va vs m ∧ Below w.heap.size w w' := by
  obtain ⟨i0, hi, hz0, hz1, hz2⟩ := info_parts infoString
  obtain ⟨i1, hi1, hz10, hz11, hz12⟩ := info_parts infoEdge
  obtain ⟨i2, hi2, hz20, hz21, hz22⟩ := info_parts infoRow
  have HA := Lib.hid A
  have h1 : n ≤ 1000000 := by have := A.acts.len; omega
  have h2 : k ≤ 1000000 := by have := A.len; omega
  have HQ := Lib.hid hq
  have hB := ((Below.refl w.heap.size w).alloc (Nat.le_refl _) (.cells #[.slice a n c, .slice b k d] 25)).alloc (by simp) (.cells #[.slice none 0 0, .slice none 0 0] 25)
  have HS := Lib.hid (strs_src (A.acts.below hB))
  have HN := Lib.hid A.acts.nils
  have HL : Hid ((m.acts.map Value.string).length = n * 1) := Lib.hid (by have := A.acts.len; simp; omega)
  have HBB := Lib.hid hB
  have HW1 := Lib.hid ((Whole.new w 25 #[.slice a n c, .slice b k d]).alloc (.cells #[.slice none 0 0, .slice none 0 0] 25))
  have HW2 := Lib.hid (Whole.new (w.alloc (.cells #[.slice a n c, .slice b k d] 25)) 25 #[.slice none 0 0, .slice none 0 0])
  clear A hB hq
  go_enter Tryz.func8, Tryz.ntmps8
  go_wp2_with (at_builtin; (refine wpList_append_sz rfl (.const (.slice none 0 0)) (.tmp 7) 22 rfl w.heap.size 9 i0 (.string ⟨#[]⟩) 1 16 Tryz.underlying22 hi hz0 hz1 hz2 rfl (by decide) (.slice none 0 0) rfl 0 [] (World.ownsRow_nil _ _ _ _) a n c rfl (m.acts.map Value.string) HN.out HL.out HS.out (strs_one _) (by unfold maxLen; omega) (by omega) HBB.out.size ?_); intro va w1 hva hg1 hat1; refine Hid.out ?_)
  simp only [Nat.zero_add, List.nil_append] at hva
  obtain ⟨aa, ca, rfl⟩ := own_slice hva
  have hb1 := HBB.out.grown hg1 HBB.out.size (fun k hk => by cases hk)
  have x1 := HW1.out.grown hg1 (fun h => by cases h)
  have x2 := HW2.out.grown hg1 (fun h => by cases h)
  have y1 := x1.cell 1
  simp only [World.size_alloc, List.getElem?_toArray, List.getElem?_cons_succ, List.getElem?_cons_zero] at y1 x2
  have HC : Hid (CopyAt w w1.heap.size #[.slice a n c, .slice b k d] (.slice aa n ca) m 0 (.slice none 0 0) (w1.alloc (.cells #[.slice aa n ca, .slice none 0 0] 25))) :=
    Lib.hid ⟨x1.alloc _, x2.alloc _, Whole.new _ _ _, RowsOwn.none _ _, by have := HA.out.acts.len; rw [← this]; exact hva.alloc _, x2.lt, hb1.alloc hb1.size _⟩
  have y2 := cell_new y1
  clear hva hb1 hg1 hat1 x1 x2 y1
  refine Lib.hid ?_
  go_wp2
  go_loopw [5, 13] (fun _ i wr => ∃ j vs, j ≤ k ∧ i = .int .i64 (j : Nat) ∧ CopyAt w w1.heap.size #[.slice a n c, .slice b k d] (.slice aa n ca) m j vs wr) (fun _ i _ => k - (intOf i).toNat)
  case atStart => exact ⟨0, _, Nat.zero_le _, rfl, HC.out⟩
  case round =>
    obtain ⟨j, vs, hj, rfl, hC⟩ := hrel
    have HC := Lib.hid hC
    obtain ⟨rows, r1, r2, r3⟩ := hC.rows
    have hl : (m.states.take j).length = j := by rw [List.length_take]; have := HA.out.len; omega
    rw [hl] at r1 r2
    obtain ⟨bb, cc, rfl⟩ := own_slice r2
    have z1 := hC.out.cell 0
    have z2 := hC.out.cell 1
    have z3 := hC.out.frozen 1
    have z4 := hC.out.lt
    have z5 := hC.below.size
    have z6 := hC.out
    have HNE := Lib.hid (own_whole r2 hC.out (by decide))
    simp only [List.getElem?_toArray, List.getElem?_cons_succ, List.getElem?_cons_zero] at z1 z2
    clear hC hl
    by_cases hlt : j < k
    · obtain ⟨bx, off, rfl, ai, ni, ci, c1, hE⟩ := (HA.out.rows.below HC.out.below) j (by have := HA.out.len; omega)
      have HE := Lib.hid hE
      have h3 : ni ≤ 1000000 := by have := hE.len; have := row_le m.states j (by have := HA.out.len; omega); have := HQ.out; omega
      have HL1 : Hid ((ecells (stAt m.states j)).length = ni * 2) := Lib.hid (by rw [ecells_length, hE.len])
      have R1 := Lib.hid r1
      have R2 := Lib.hid r2
      have R3 := Lib.hid r3
      clear r1 r2 r3 hE
      go_wp2
      go_region_law (first
        | (refine step_append_sz rfl (.const (.slice none 0 0)) (.tmp 19) 50 (by rfl) w.heap.size 58 i1 (.agg #[.int .i64 0, .int .i64 0]) 2 16 Tryz.underlying50 hi1 hz10 hz11 hz12 rfl (by decide) (.slice none 0 0) (by rfl) 0 [] (World.ownsRow_nil _ _ _ _) ai ni ci (by rfl) (ecells (stAt m.states j)) HE.out.nils HL1.out (edges_src HE.out.cells) (ecells_one _) (by unfold maxLen; omega) (by omega) HC.out.below.size ?_; intro v1 wA hA hgA hatA; clear hatA; simp only [Nat.zero_add, List.nil_append] at hA; obtain ⟨a1, q1, rfl⟩ := own_slice hA; have kW := Whole.grown (w := wr.drew) (w' := wA) z6 hgA (fun h => by cases h); have k1 := kW.cell 1; have k2 := kW.frozen 1; simp only [List.getElem?_toArray, List.getElem?_cons_succ, List.getElem?_cons_zero] at k1; have k3 := cell_new k1)
        | (refine step_append_sz rfl (.tmp 18) (.tmp 21) 23 (by rfl) w.heap.size 50 i2 (.slice none 0 0) 1 24 Tryz.underlying23 hi2 hz20 hz21 hz22 rfl (by decide) (.slice bb j cc) (by rfl) j rows ((own_up (w := wr.drew) R2.out hgA).alloc _) (some ⟨wA.heap.size, 0, none⟩) 1 1 (by rfl) [.slice a1 ni q1] (fun h => by cases h) rfl (one_src _ _ _) (by simp [Value.oneCell']) (by unfold maxLen; omega) (by omega) (Nat.le_trans HC.out.below.size (Nat.le_trans hgA.size (by simp))) ?_; intro v2 wB hB hgB hatB; clear hatB; obtain ⟨a2, q2, rfl⟩ := own_slice hB; have kW2 := (kW.alloc (.cells #[.slice a1 ni q1] 50)).grown (w' := wB) hgB HNE.out; have k4 := kW2.cell 1; have k5 := kW2.frozen 1; simp only [List.getElem?_toArray, List.getElem?_cons_succ, List.getElem?_cons_zero] at k4))
      all_goals
        have HN2 : Hid (CopyAt w w1.heap.size #[.slice a n c, .slice (some ⟨bx, off, none⟩) k d] (.slice aa n ca) m (j + 1) (.slice a2 (j + 1) q2) (wB.setCell ⟨w1.heap.size, 1, none⟩ (.slice a2 (j + 1) q2))) :=
          Lib.hid (HC.out.next (by have := HA.out.len; omega) (by unfold EdgeOwn; rw [← HE.out.len]; exact hA) (grown_drew hgA) hgB (fun rows' e1 e2 => by
            have e3 := own_eq e1 ((own_up (w := wr.drew) R2.out hgA).alloc (.cells #[.slice a1 ni q1] 50))
            rw [e3]; exact hB))
        go_wp2
        go_roundw
        case rel => exact ⟨j + 1, _, by omega, by go_num, HN2.out⟩
        case measure => simp [intOf]; omega
    · obtain rfl : j = k := by omega
      have x0 := HC.out.res.cell 0
      have x1 := HC.out.res.cell 1
      have x2 := HC.out.res.frozen 0
      have x3 := HC.out.res.frozen 1
      have x4 := HC.out.res.lt
      have x5 := HC.out.lo
      simp only [List.getElem?_toArray, List.getElem?_cons_succ, List.getElem?_cons_zero] at x0 x1
      have HR : Hid (SysOwn ((wr.setCell ⟨w.heap.size + 1, 0, none⟩ (.slice aa n ca)).setCell ⟨w.heap.size + 1, 1, none⟩ (.slice bb j cc)) w.heap.size (.slice aa n ca) (.slice bb j cc) m ∧ Below w.heap.size w ((wr.setCell ⟨w.heap.size + 1, 0, none⟩ (.slice aa n ca)).setCell ⟨w.heap.size + 1, 1, none⟩ (.slice bb j cc))) := Lib.hid (by
        have hw := HC.out.res.set 0 (.slice aa n ca)
        have hrows := HC.out.rows
        rw [List.take_of_length_le (by have := HA.out.len; omega)] at hrows
        refine ⟨⟨own_stored (own_stored HC.out.acts HC.out.res (by decide)) hw (by decide), ?_⟩, (HC.out.below.setCell (by simp) _).setCell (by simp) _⟩
        have s1 := hrows.kept (grown_self wr ⟨w.heap.size + 1, 0, none⟩ (.slice aa n ca)) (.inr (own_whole hrows.choose_spec.2.1 HC.out.res (by decide)).symm) (fun r l hr => .inr (own_whole hr HC.out.res (by decide)).symm)
        exact s1.kept (grown_self _ ⟨w.heap.size + 1, 1, none⟩ (.slice bb j cc)) (.inr (own_whole s1.choose_spec.2.1 hw (by decide)).symm) (fun r l hr => .inr (own_whole hr hw (by decide)).symm))
      have g0 := (HC.out.res.set 0 (.slice aa n ca)).cell 0
      have g1 := ((HC.out.res.set 0 (.slice aa n ca)).set 1 (.slice bb j cc)).cell 1
      simp only [List.setIfInBounds_toArray, List.set_cons_zero, List.set_cons_succ, List.getElem?_toArray, List.getElem?_cons_succ, List.getElem?_cons_zero] at g0 g1
      clear r1 r2 r3
      go_wp2
      exact bodyPost_ret (v := .agg #[.slice aa n ca, .slice bb j cc]) (by simp [results, Tryz.results8, go_sem, g0, g1]) rfl ⟨_, _, rfl, HR.out⟩
end Go.Proofs.YtbncofgbpffmkaaGreatDoor
/- Plain facts: words of actions; the states after a word; nothing here is about a program. -/
namespace Go.Proofs.YtbncofgbpffmkaaGreatDoor.Pl
open Go Go.Lib

def actK (n : Nat) (a : Int) : Bool := decide (0 ≤ a) && decide (a < n)
theorem actK_iff (n : Nat) (a : Int) : actK n a = true ↔ 0 ≤ a ∧ a < n := by simp [actK]
theorem actK_no {n : Nat} {a : Int} (h : a < 0 ∨ n ≤ a) : actK n a = false := by
  rw [Bool.eq_false_iff, Ne, actK_iff]; omega
def actsK (n : Nat) (l : List Int) : Bool := l.all (actK n)
theorem actsK_iff (n : Nat) (l : List Int) : actsK n l = true ↔ ∀ k, k < l.length → 0 ≤ l.getD k 0 ∧ l.getD k 0 < n := by
  unfold actsK
  rw [List.all_eq_true]
  constructor
  · intro h k hk
    have := h (l.getD k 0) (by rw [List.getD_eq_getElem?_getD, List.getElem?_eq_getElem hk]; exact List.getElem_mem hk)
    exact (actK_iff _ _).1 this
  · intro h x hx
    obtain ⟨k, hk, rfl⟩ := List.getElem_of_mem hx
    have := h k hk
    rw [List.getD_eq_getElem?_getD, List.getElem?_eq_getElem hk] at this
    exact (actK_iff _ _).2 this
theorem actsK_bad {n : Nat} {l : List Int} {k : Nat} (hk : k < l.length) (h : actK n (l.getD k 0) = false) : actsK n l = false := by
  rw [Bool.eq_false_iff, Ne, actsK_iff]
  intro h'
  rw [(actK_iff _ _).2 (h' k hk)] at h
  cases h
def wordB (n : Nat) (l : List Int) : Bool := decide (l.length ≤ 10000) && actsK n l

/-- whether an edge with an action leads from some states to another one -/
def leads (l : List Edg) (a : Int) (y : Nat) : Bool := l.any fun e => decide (e.1 = a) && decide (e.2 = (y : Int))
def hitP (ss : List (List Edg)) (from_ : List Nat) (a : Int) (y : Nat) : Bool := from_.any fun x => leads (stAt ss x) a y
def nextL (ss : List (List Edg)) (from_ : List Nat) (a : Int) : List Nat := (List.range ss.length).filter (hitP ss from_ a)
def afterL (ss : List (List Edg)) (word : List Int) : List Nat := word.foldl (nextL ss) [0]
theorem nextL_lt {ss : List (List Edg)} {l : List Nat} {a : Int} : ∀ y ∈ nextL ss l a, y < ss.length := fun y h => by
  unfold nextL at h
  rw [List.mem_filter, List.mem_range] at h
  exact h.1
theorem nextL_mem {ss : List (List Edg)} {l : List Nat} {a : Int} {y : Nat} : y ∈ nextL ss l a ↔ y < ss.length ∧ hitP ss l a y = true := by
  unfold nextL
  rw [List.mem_filter, List.mem_range]
theorem nextL_len (ss : List (List Edg)) (l : List Nat) (a : Int) : (nextL ss l a).length ≤ ss.length := by
  have := List.length_filter_le (hitP ss l a) (List.range ss.length)
  rwa [List.length_range] at this
theorem nextL_sorted (ss : List (List Edg)) (l : List Nat) (a : Int) : (nextL ss l a).Pairwise (· < ·) := List.Pairwise.filter _ List.pairwise_lt_range
theorem afterL_next (ss : List (List Edg)) (word : List Int) (j : Nat) (h : j < word.length) : afterL ss (word.take (j + 1)) = nextL ss (afterL ss (word.take j)) (word.getD j 0) := by
  unfold afterL
  rw [take_next word j 0 h, List.foldl_append]
  rfl
theorem afterL_zero (ss : List (List Edg)) (word : List Int) : afterL ss (word.take 0) = [0] := rfl
theorem afterL_facts {ss : List (List Edg)} (h : 1 ≤ ss.length) (word : List Int) : ∀ j, j ≤ word.length → (∀ y ∈ afterL ss (word.take j), y < ss.length) ∧ (afterL ss (word.take j)).length ≤ ss.length ∧ (afterL ss (word.take j)).Pairwise (· < ·)
  | 0, _ => by
    rw [afterL_zero]
    exact ⟨fun y hy => by simp at hy; omega, by simpa using h, by simp⟩
  | j + 1, hj => by
    rw [afterL_next ss word j (by omega)]
    exact ⟨nextL_lt, nextL_len _ _ _, nextL_sorted _ _ _⟩
theorem leads_take {l : List Edg} {t : Nat} (h : t < l.length) (a : Int) (y : Nat) : leads (l.take (t + 1)) a y = (leads (l.take t) a y || (decide ((l.getD t (0, 0)).1 = a) && decide ((l.getD t (0, 0)).2 = (y : Int)))) := by
  unfold leads
  rw [take_next l t (0, 0) h, List.any_append]
  simp
theorem hitP_take {ss : List (List Edg)} {l : List Nat} {j : Nat} (h : j < l.length) (a : Int) (y : Nat) : hitP ss (l.take (j + 1)) a y = (hitP ss (l.take j) a y || leads (stAt ss (l.getD j 0)) a y) := by
  unfold hitP
  rw [take_next l j 0 h, List.any_append]
  simp

/-! ### rows of Booleans -/
def boolsP (k : Nat) (P : Nat → Bool) : List Value := (List.range k).map fun y => .bool (P y)
theorem boolsP_length (k : Nat) (P : Nat → Bool) : (boolsP k P).length = k := by simp [boolsP]
theorem boolsP_at {k y : Nat} (P : Nat → Bool) (h : y < k) : (boolsP k P)[y]? = some (.bool (P y)) := by simp [boolsP, h]
theorem boolsP_congr {k : Nat} {P Q : Nat → Bool} (h : ∀ y, y < k → P y = Q y) : boolsP k P = boolsP k Q := by
  unfold boolsP
  refine List.map_congr_left fun y hy => ?_
  rw [h y (List.mem_range.1 hy)]
theorem boolsP_set {k t : Nat} (P : Nat → Bool) (ht : t < k) : (boolsP k P).set t (.bool true) = boolsP k (fun y => P y || decide (y = t)) := by
  refine List.ext_getElem? fun i => ?_
  rw [List.getElem?_set]
  by_cases hi : i < k
  · by_cases e : t = i
    · subst e
      rw [if_pos rfl, if_pos (by rw [boolsP_length]; exact hi), boolsP_at _ hi]
      simp
    · rw [if_neg e, boolsP_at P hi, boolsP_at _ hi, decide_eq_false (fun h => e h.symm), Bool.or_false]
  · rw [List.getElem?_eq_none (by rw [boolsP_length]; omega)]
    by_cases e : t = i
    · omega
    · rw [if_neg e, List.getElem?_eq_none (by rw [boolsP_length]; omega)]
theorem boolsP_none (k : Nat) : List.replicate k (Value.bool false) = boolsP k (fun _ => false) := by
  refine List.ext_getElem (by simp [boolsP]) fun i h1 h2 => ?_
  simp [boolsP]
end Go.Proofs.YtbncofgbpffmkaaGreatDoor.Pl
