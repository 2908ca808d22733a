/- Texts joined: SOwn, PCheck, StepPl. -/
import Derived.Test.YtohljainhkdiiaaGreatDoorJp14
import Derived.Test.YtohljainhkdiiaaGreatDoorJp04
import Derived.Test.YtohljainhkdiiaaGreatDoorJp02
/- A specification in the call's own memory. -/
namespace Go.Proofs.YtohljainhkdiiaaGreatDoor
open Go.RowKit Pl

theorem infoState : (Tryz.prog.info? 87).map (fun i => (i.zero, i.size, i.bytes)) = some (some (.agg #[.slice none 0 0, .slice none 0 0]), 2, 48) := by kernel_rfl
theorem numsrc {w : World} {a : Option Addr} {n c : Nat} {l : List Int} (A : IntArg w a n c l) : SrcAt w a (l.map (Value.int .i64)) := fun j u hu => by
  have hj : j < l.length := by simpa using (List.getElem?_eq_some_iff.1 hu).1
  obtain ⟨b, off, rfl, hc⟩ := A.cells j hj
  refine ⟨_, rfl, ?_⟩
  rw [add_plainly, hc, ← hu, List.getElem?_map, List.getElem?_eq_getElem hj]
  simp [List.getD, hj]
theorem numone (l : List Int) : ∀ u ∈ l.map (Value.int .i64), u.oneCell' = true := fun u hu => by
  obtain ⟨x, _, rfl⟩ := List.mem_map.1 hu
  rfl
theorem IntArg.nils {w : World} {a : Option Addr} {n c : Nat} {l : List Int} (A : IntArg w a n c l) : a = none → n = 0 ∧ c = 0 := fun h => by
  have := A.nil h
  have := A.cap
  omega
theorem pair_src (W : World) (u v : Value) (t : TypeId) : SrcAt (W.alloc (.cells #[u, v] t)) (some ⟨W.heap.size, 0, none⟩) [u, v] := fun j x hx => by
  have hj : j < 2 := by simpa using (List.getElem?_eq_some_iff.1 hx).1
  refine ⟨_, rfl, ?_⟩
  rw [add_plainly, (Whole.new W t #[u, v]).cell, ← hx]
  simp
/-- numbers in the call's own memory -/
def NumO (w : World) (base : Nat) (v : Value) (l : List Int) : Prop := w.ownsRow base 3 1 v l.length (l.map (Value.int .i64))
theorem NumO.one {w : World} {base : Nat} {v : Value} {l : List Int} (h : NumO w base v l) : v.oneCell' = true := by
  rcases h.2 with ⟨rfl, _⟩ | ⟨g, cap, cur, rfl, _⟩ <;> rfl
theorem NumO.kept {w w' : World} {base : Nat} {v : Value} {l : List Int} {row : Option Nat} (h : NumO w base v l) (hg : w.grownBy w' row) (hne : v.ownBlock = none ∨ v.ownBlock ≠ row) : NumO w' base v l := World.ownsRow.kept h hg hne
theorem NumO.alloc {w : World} {base : Nat} {v : Value} {l : List Int} (h : NumO w base v l) (o : Obj) : NumO (w.alloc o) base v l := World.ownsRow.alloc h o
theorem NumO.below {w w' : World} {base : Nat} {v : Value} {l : List Int} (h : NumO w base v l) (hb : Below w.heap.size w w') : NumO w' base v l :=
  h.kept (row := Option.none) ⟨hb.os, hb.tape, hb.output, hb.size, fun k hk _ => hb.block k hk⟩ (by cases e : v.ownBlock <;> simp)
theorem NumO.arg {w : World} {base : Nat} {v : Value} {l : List Int} (h : NumO w base v l) (hl : l.length ≤ 17592186044416) (hr : ∀ j, j < l.length → -9223372036854775808 ≤ l.getD j 0 ∧ l.getD j 0 ≤ 9223372036854775807) :
    ∃ a c, v = .slice a l.length c ∧ NumsArg w a l.length c l := by
  rcases h.2 with ⟨rfl, h0⟩ | ⟨g, cap, cur, rfl, hg, hh, hc, hm, hz, ht⟩
  · rw [h0]
    exact ⟨none, 0, rfl, ⟨⟨fun _ => rfl, h0.symm, Nat.le_refl _, by omega, fun j hj => by omega⟩, by omega, hr⟩⟩
  · refine ⟨some ⟨g, 0, none⟩, cap, rfl, ⟨⟨(fun h => by cases h), rfl, hc, by omega, fun j hj => ⟨g, 0, rfl, ?_⟩⟩, hl, hr⟩⟩
    rw [Nat.zero_add, World.ownsRow.cellAt h j (by omega), List.getElem?_map, List.getElem?_eq_getElem hj, List.getD_eq_getElem?_getD, List.getElem?_eq_getElem hj]
    rfl

def rcells (rows : List (Value × Value)) : List Value := rows.flatMap fun r => [r.1, r.2]
theorem rcells_length : ∀ l : List (Value × Value), (rcells l).length = l.length * 2
  | [] => rfl
  | r :: l => by
    have := rcells_length l
    simp only [rcells, List.flatMap_cons, List.length_append, List.length_cons, List.length_nil] at this ⊢
    omega
theorem rcells_at : ∀ (l : List (Value × Value)) (k : Nat) (r : Value × Value), l[k]? = some r → (rcells l)[k * 2]? = some r.1 ∧ (rcells l)[k * 2 + 1]? = some r.2
  | [], _, _, h => by simp at h
  | x :: l, 0, r, h => by
    simp only [List.getElem?_cons_zero, Option.some.injEq] at h
    subst h
    simp [rcells]
  | x :: l, k + 1, r, h => by
    have := rcells_at l k r (by simpa using h)
    have e : rcells (x :: l) = x.1 :: x.2 :: rcells l := rfl
    rw [e, show (k + 1) * 2 = k * 2 + 1 + 1 by omega]
    simpa using this
theorem rcells_snoc (l : List (Value × Value)) (r : Value × Value) : rcells (l ++ [r]) = rcells l ++ [r.1, r.2] := by simp [rcells]
/-- states in the call's own memory -/
def StesOwn (w : World) (base : Nat) (v : Value) (ss : List Ste) : Prop :=
  ∃ rows : List (Value × Value), rows.length = ss.length ∧ w.ownsRow base 87 2 v ss.length (rcells rows) ∧ ∀ i, i < ss.length → ∃ r, rows[i]? = some r ∧ NumO w base r.1 (teAt ss i).1 ∧ NumO w base r.2 (teAt ss i).2
theorem StesOwn.none (w : World) (base : Nat) : StesOwn w base (.slice none 0 0) [] := ⟨[], rfl, World.ownsRow_nil _ _ _ _, fun i hi => by simp at hi⟩
theorem StesOwn.kept {w w' : World} {base : Nat} {v : Value} {ss : List Ste} {row : Option Nat} (h : StesOwn w base v ss) (hg : w.grownBy w' row) (hne : v.ownBlock = Option.none ∨ v.ownBlock ≠ row)
    (hne' : ∀ r l, NumO w base r l → r.ownBlock = Option.none ∨ r.ownBlock ≠ row) : StesOwn w' base v ss := by
  obtain ⟨rows, h1, h2, h3⟩ := h
  refine ⟨rows, h1, h2.kept hg hne, fun i hi => ?_⟩
  obtain ⟨r, h4, h5, h6⟩ := h3 i hi
  exact ⟨r, h4, h5.kept hg (hne' _ _ h5), h6.kept hg (hne' _ _ h6)⟩
theorem StesOwn.below {w w' : World} {base : Nat} {v : Value} {ss : List Ste} (h : StesOwn w base v ss) (hb : Below w.heap.size w w') : StesOwn w' base v ss :=
  h.kept (row := Option.none) ⟨hb.os, hb.tape, hb.output, hb.size, fun k hk _ => hb.block k hk⟩ (by cases e : v.ownBlock <;> simp) (fun r _ _ => by cases e : r.ownBlock <;> simp)
theorem StesOwn.alloc {w : World} {base : Nat} {v : Value} {ss : List Ste} (h : StesOwn w base v ss) (o : Obj) : StesOwn (w.alloc o) base v ss :=
  h.below ((Below.refl _ w).alloc (Nat.le_refl _) o)
theorem teAt_snoc (ss : List Ste) (t : Ste) : teAt (ss ++ [t]) ss.length = t := by simp [teAt, List.getD]
theorem teAt_app (ss ss' : List Ste) (i : Nat) (h : i < ss.length) : teAt (ss ++ ss') i = teAt ss i := by simp [teAt, List.getD, List.getElem?_append_left h]
/-- one state more: what an append of its two values leaves -/
theorem StesOwn.snoc {w w' : World} {base : Nat} {v v' p q : Value} {ss : List Ste} {t : Ste} (h : StesOwn w base v ss) (hp : NumO w base p t.1) (hq : NumO w base q t.2) (hg : w.grownBy w' v.ownBlock)
    (hown : ∀ rows, w.ownsRow base 87 2 v ss.length (rcells rows) → rows.length = ss.length → w'.ownsRow base 87 2 v' (ss.length + 1) (rcells rows ++ [p, q])) : StesOwn w' base v' (ss ++ [t]) := by
  obtain ⟨rows, h1, h2, h3⟩ := h
  have h4 := hown rows h2 h1
  rw [← rcells_snoc rows (p, q)] at h4
  refine ⟨rows ++ [(p, q)], by simp [h1], by simpa using h4, fun i hi => ?_⟩
  rw [List.length_append, List.length_singleton] at hi
  by_cases e : i < ss.length
  · obtain ⟨r', h5, h6, h7⟩ := h3 i e
    exact ⟨r', by rw [List.getElem?_append_left (by omega)]; exact h5, by rw [teAt_app _ _ _ e]; exact h6.kept hg (own_apart h6 h2 (by decide)), by rw [teAt_app _ _ _ e]; exact h7.kept hg (own_apart h7 h2 (by decide))⟩
  · obtain rfl : i = ss.length := by omega
    exact ⟨(p, q), by rw [List.getElem?_append_right (by omega), h1, Nat.sub_self]; rfl, by rw [teAt_snoc]; exact hp.kept hg (own_apart hp h2 (by decide)), by rw [teAt_snoc]; exact hq.kept hg (own_apart hq h2 (by decide))⟩
/-- numbers that an int can be, and not too many -/
def Fits (l : List Int) : Prop := l.length ≤ 17592186044416 ∧ ∀ j, j < l.length → -9223372036854775808 ≤ l.getD j 0 ∧ l.getD j 0 ≤ 9223372036854775807
theorem NumsArg.fits {w : World} {a : Option Addr} {n c : Nat} {l : List Int} (h : NumsArg w a n c l) : Fits l := ⟨by have := h.few; have := h.arg.len; omega, h.rng⟩
theorem StesOwn.arg {w : World} {base : Nat} {v : Value} {ss : List Ste} (h : StesOwn w base v ss) (hl : ∀ i, i < ss.length → Fits (teAt ss i).1 ∧ Fits (teAt ss i).2) : ∃ b d, v = .slice b ss.length d ∧ ss.length ≤ d ∧ (b = Option.none → d = 0) ∧ StesIn w b ss := by
  obtain ⟨rows, h1, h2, h3⟩ := h
  rcases h2.2 with ⟨rfl, h0⟩ | ⟨g, cap, cur, rfl, _, hh, hn, hm, hz, ht⟩
  · have e : ss = [] := List.length_eq_zero_iff.1 h0
    subst e
    exact ⟨Option.none, 0, rfl, Nat.le_refl _, fun _ => rfl, fun i hi => by simp at hi⟩
  · refine ⟨some ⟨g, 0, Option.none⟩, cap, rfl, hn, (fun h => by cases h), fun i hi => ⟨g, 0, rfl, ?_⟩⟩
    obtain ⟨r, h4, h5, h6⟩ := h3 i hi
    obtain ⟨⟨f1, f2⟩, f3, f4⟩ := hl i hi
    obtain ⟨a1, c1, e1, hE1⟩ := h5.arg f1 f2
    obtain ⟨a2, c2, e2, hE2⟩ := h6.arg f3 f4
    obtain ⟨g1, g2⟩ := rcells_at rows i r h4
    rw [e1] at g1
    rw [e2] at g2
    have k1 := h2.cells (g := g) rfl _ _ g1
    have k2 := h2.cells (g := g) rfl _ _ g2
    rw [add_plainly] at k1 k2
    exact ⟨a1, _, c1, a2, _, c2, k1, by rw [Nat.add_assoc]; exact k2, hE1, hE2⟩
/-- a specification in the call's own memory -/
structure SpcOwn (w : World) (base : Nat) (va vs : Value) (s : Spc) : Prop where
  acts : w.ownsRow base 9 1 va s.acts.length (s.acts.map Value.string)
  rows : StesOwn w base vs s.states
theorem SpcOwn.arg {w : World} {base : Nat} {va vs : Value} {s : Spc} (h : SpcOwn w base va vs s) (h1 : s.acts.length ≤ 140737488355328) (h2 : s.states.length ≤ 140737488355328) (h3 : ∀ i, i < s.states.length → Fits (teAt s.states i).1 ∧ Fits (teAt s.states i).2)
    (hs : ∀ k, k < s.acts.length → (at_ s.acts k).size ≤ 9223372036854775807) : ∃ a c b d, va = .slice a s.acts.length c ∧ vs = .slice b s.states.length d ∧ SpecArg w a s.acts.length c b s.states.length d s := by
  obtain ⟨b, d, rfl, hd, hnil, hrows⟩ := h.rows.arg h3
  rcases h.acts.2 with ⟨rfl, h0⟩ | ⟨g, cap, cur, rfl, hg, hh, hc, hm, hz, ht⟩
  · rw [h0]
    exact ⟨Option.none, 0, b, d, rfl, rfl, ⟨⟨fun _ => rfl, h0.symm, Nat.le_refl _, by omega, fun k hk => by omega, fun j hj => by omega⟩, by omega, hnil, rfl, hd, h2, hrows⟩⟩
  · refine ⟨some ⟨g, 0, Option.none⟩, cap, b, d, rfl, rfl, ⟨⟨(fun h => by cases h), rfl, hc, by omega, hs, fun j hj => ⟨g, 0, rfl, ?_⟩⟩, h1, hnil, rfl, hd, h2, hrows⟩⟩
    have h9 := h.acts.cells (g := g) rfl j (.string (s.acts.getD j ByteArray.empty)) (by rw [List.getElem?_map, List.getElem?_eq_getElem hj]; simp [List.getD, hj])
    rw [add_plainly] at h9
    exact h9
end Go.Proofs.YtohljainhkdiiaaGreatDoor
/- spec.Check. -/
namespace Go.Proofs.YtohljainhkdiiaaGreatDoor
open Go.RowKit Pl

def chkS (s : Spc) : Int := if spcB s = true then 0 else 30
theorem chkS_yes {s : Spc} (h : spcB s = true) : chkS s = 0 := if_pos h
theorem chkS_no {s : Spc} (h : spcB s = false) : chkS s = 30 := by unfold chkS; rw [h]; rfl
theorem steB_next {na ns : Nat} {t : Ste} (h : nextB na ns t.2 = false) : steB na ns t = false := by simp [steB, h]
theorem steB_acc {na ns : Nat} {t : Ste} (h : accB t.1 t.2 = false) : steB na ns t = false := by simp [steB, h]
set_option maxHeartbeats 2000000 in
theorem PCheck_any {w : World} {a : Option Addr} {n c : Nat} {b : Option Addr} {k d : Nat} {s : Spc} {e0 e1 e2 : Addr} (E : Errs w e0 e1 e2) (A : SpecArg w a n c b k d s) :
    Calls Tryz.prog 76 #[.agg #[.slice a n c, .slice b k d]] w fun e w' => e = .returned (.int .i64 (chkS s)) ∧ Below w.heap.size w w' := by
  have hB := (Below.refl w.heap.size w).alloc (Nat.le_refl _) (.cells #[.slice a n c, .slice b k d] 40)
  have HC := Lib.hid (Check_any (E.below hB) (A.acts.below hB))
  have HA := Lib.hid A
  have h1 : n ≤ 140737488355328 := A.abig
  have h2 : k ≤ 140737488355328 := A.big
  have HBB := Lib.hid hB
  clear A hB E
  cases ha : actsB s.acts
  · have HV := Lib.hid (chkS_no (spcB_acts ha))
    rw [ha] at HC
    clear ha
    go_enter Tryz.func76, Tryz.ntmps76
    go_wp2_with fail
    refine HC.out.mono ?_
    rintro e w' ⟨rfl, rfl⟩
    go_wp2
    go_ret
    exact ⟨by rw [HV.out]; rfl, HBB.out⟩
  · rw [ha] at HC
    have HAC := Lib.hid ha
    have h8 := ((actsB_iff s.acts).1 ha).1
    clear ha
    by_cases hk : 1 ≤ k ∧ k ≤ 500
    · obtain ⟨hk1, hk2⟩ := hk
      go_enter Tryz.func76, Tryz.ntmps76
      go_wp2_with fail
      refine HC.out.mono ?_
      rintro e w' ⟨rfl, rfl⟩
      go_wp2
      go_loopw [4, 24] (fun _ i wr => ∃ j : Nat, j ≤ k ∧ i = .int .i64 j ∧ Hid (∀ x, x < j → steB s.acts.length s.states.length (teAt s.states x) = true) ∧ Below (w.heap.size + 1) (w.alloc (.cells #[.slice a n c, .slice b k d] 40)) wr) (fun _ i _ => k - (intOf i).toNat)
      case atStart => exact ⟨0, Nat.zero_le _, rfl, Lib.hid fun x hx => by omega, Below.refl _ _⟩
      case round =>
        obtain ⟨j, hj, rfl, ht, hb⟩ := hrel
        have q0 : wr.cell? ⟨w.heap.size, 0, none⟩ = some (.slice a n c) := by rw [hb.cell (by simp)]; simp
        have q1 : wr.cell? ⟨w.heap.size, 1, none⟩ = some (.slice b k d) := by rw [hb.cell (by simp)]; simp
        have q2 : w.heap.size < wr.heap.size := lt_of_cell q0
        have HBr := Lib.hid hb
        have HBw := Lib.hid (HBB.out.trans (hb.mono (by omega)))
        clear hb
        by_cases hlt : j < k
        · obtain ⟨bb, off, rfl, a1, n1, c1, a2, n2, c2, d1, d2, hN1, hN2⟩ := (HA.out.rows.below HBw.out) j (by have := HA.out.len; omega)
          have hbl : Below wr.heap.size wr (wr.alloc (.cells #[.slice a1 n1 c1, .slice a2 n2 c2] 87)) := (Below.refl _ wr).alloc (Nat.le_refl _) _
          have HX := Lib.hid (isNext_any n k (by omega) (by omega) (hN2.arg.below hbl))
          have HY := fun h8 => isAccept_any (hN1.below hbl) (hN2.arg.below hbl) h8
          have HBe := Lib.hid (HBr.out.alloc (Nat.le_trans (by simp) HBr.out.size) (.cells #[.slice a1 n1 c1, .slice a2 n2 c2] 87))
          have HBf := Lib.hid (HBw.out.alloc HBw.out.size (.cells #[.slice a1 n1 c1, .slice a2 n2 c2] 87))
          clear hN1 hN2 hbl
          cases hnx : nextB n k (teAt s.states j).2
          · have HV := Lib.hid (chkS_no (s := s) (spcB_ste j (by have := HA.out.len; omega) (steB_next (by rw [← HA.out.len, ← HA.out.acts.len]; exact hnx))))
            rw [hnx] at HX
            clear hnx
            go_wp2_with fail
            refine HX.out.mono ?_
            rintro e w' ⟨rfl, rfl⟩
            go_wp2
            go_ret
            exact ⟨by rw [HV.out]; rfl, HBf.out⟩
          · have hlen := ((nextB_iff _ _ _).1 hnx).1
            have HY := Lib.hid (HY (by have := HA.out.acts.len; omega))
            rw [hnx] at HX
            cases hac : accB (teAt s.states j).1 (teAt s.states j).2
            · have HV := Lib.hid (chkS_no (s := s) (spcB_ste j (by have := HA.out.len; omega) (steB_acc hac)))
              rw [hac] at HY
              clear hnx hac hlen
              go_wp2_with fail
              refine HX.out.mono ?_
              rintro e w' ⟨rfl, rfl⟩
              go_wp2_with fail
              refine HY.out.mono ?_
              rintro e w' ⟨rfl, rfl⟩
              go_wp2
              go_ret
              exact ⟨by rw [HV.out]; rfl, HBf.out⟩
            · have HG : Hid (∀ x, x < j + 1 → steB s.acts.length s.states.length (teAt s.states x) = true) := Lib.hid fun x hx => by
                by_cases e : x = j
                · rw [e]
                  unfold steB
                  rw [← HA.out.len, ← HA.out.acts.len, hnx, hac]
                  rfl
                · exact ht.out x (by omega)
              rw [hac] at HY
              clear hnx hac hlen
              go_wp2_with fail
              refine HX.out.mono ?_
              rintro e w' ⟨rfl, rfl⟩
              go_wp2_with fail
              refine HY.out.mono ?_
              rintro e w' ⟨rfl, rfl⟩
              go_wp2
              go_roundw
              case rel => exact ⟨j + 1, by omega, by go_num, HG, HBe.out⟩
              case measure => simp [intOf]; omega
        · have HV := Lib.hid (chkS_yes (s := s) ((spcB_iff s).2 ⟨HAC.out, by have := HA.out.len; omega, by have := HA.out.len; omega, fun i hi => ht.out i (by have := HA.out.len; omega)⟩))
          go_wp2
          go_ret
          exact ⟨by rw [HV.out]; rfl, HBw.out⟩
    · have HV : Hid (chkS s = 30) := Lib.hid (by
        by_cases h : k < 1
        · exact chkS_no (spcB_few (by have := HA.out.len; omega))
        · exact chkS_no (spcB_many (by have := HA.out.len; omega)))
      by_cases hk1 : k < 1
      · go_enter Tryz.func76, Tryz.ntmps76
        go_wp2_with fail
        refine HC.out.mono ?_
        rintro e w' ⟨rfl, rfl⟩
        go_wp2
        go_ret
        exact ⟨by rw [HV.out]; rfl, HBB.out⟩
      · have hk2 : 500 < k := by omega
        go_enter Tryz.func76, Tryz.ntmps76
        go_wp2_with fail
        refine HC.out.mono ?_
        rintro e w' ⟨rfl, rfl⟩
        go_wp2
        go_ret
        exact ⟨by rw [HV.out]; rfl, HBB.out⟩
end Go.Proofs.YtohljainhkdiiaaGreatDoor
/- Plain facts: words of actions; the states after a word; nothing here is about a program. -/
namespace Go.Proofs.YtohljainhkdiiaaGreatDoor.Pl
open Go Go.Lib

def actK (n : Nat) (a : Int) : Bool := decide (0 ≤ a) && decide (a < n)
theorem actK_iff (n : Nat) (a : Int) : actK n a = true ↔ 0 ≤ a ∧ a < n := by simp [actK]
theorem actK_no {n : Nat} {a : Int} (h : a < 0 ∨ n ≤ a) : actK n a = false := by
  rw [Bool.eq_false_iff, Ne, actK_iff]; omega
def actsK (n : Nat) (l : List Int) : Bool := l.all (actK n)
theorem actsK_iff (n : Nat) (l : List Int) : actsK n l = true ↔ ∀ k, k < l.length → 0 ≤ l.getD k 0 ∧ l.getD k 0 < n := by
  unfold actsK
  rw [List.all_eq_true]
  constructor
  · intro h k hk
    have := h (l.getD k 0) (by rw [List.getD_eq_getElem?_getD, List.getElem?_eq_getElem hk]; exact List.getElem_mem hk)
    exact (actK_iff _ _).1 this
  · intro h x hx
    obtain ⟨k, hk, rfl⟩ := List.getElem_of_mem hx
    have := h k hk
    rw [List.getD_eq_getElem?_getD, List.getElem?_eq_getElem hk] at this
    exact (actK_iff _ _).2 this
theorem actsK_bad {n : Nat} {l : List Int} {k : Nat} (hk : k < l.length) (h : actK n (l.getD k 0) = false) : actsK n l = false := by
  rw [Bool.eq_false_iff, Ne, actsK_iff]
  intro h'
  rw [(actK_iff _ _).2 (h' k hk)] at h
  cases h
def wordB (n : Nat) (l : List Int) : Bool := decide (l.length ≤ 10000) && actsK n l

/-- whether an edge with an action leads from some states to another one -/
def leads (l : List Edg) (a : Int) (y : Nat) : Bool := l.any fun e => decide (e.1 = a) && decide (e.2 = (y : Int))
def hitP (ss : List (List Edg)) (from_ : List Nat) (a : Int) (y : Nat) : Bool := from_.any fun x => leads (stAt ss x) a y
def nextL (ss : List (List Edg)) (from_ : List Nat) (a : Int) : List Nat := (List.range ss.length).filter (hitP ss from_ a)
def afterL (ss : List (List Edg)) (word : List Int) : List Nat := word.foldl (nextL ss) [0]
theorem nextL_lt {ss : List (List Edg)} {l : List Nat} {a : Int} : ∀ y ∈ nextL ss l a, y < ss.length := fun y h => by
  unfold nextL at h
  rw [List.mem_filter, List.mem_range] at h
  exact h.1
theorem nextL_mem {ss : List (List Edg)} {l : List Nat} {a : Int} {y : Nat} : y ∈ nextL ss l a ↔ y < ss.length ∧ hitP ss l a y = true := by
  unfold nextL
  rw [List.mem_filter, List.mem_range]
theorem nextL_len (ss : List (List Edg)) (l : List Nat) (a : Int) : (nextL ss l a).length ≤ ss.length := by
  have := List.length_filter_le (hitP ss l a) (List.range ss.length)
  rwa [List.length_range] at this
theorem nextL_sorted (ss : List (List Edg)) (l : List Nat) (a : Int) : (nextL ss l a).Pairwise (· < ·) := List.Pairwise.filter _ List.pairwise_lt_range
theorem afterL_next (ss : List (List Edg)) (word : List Int) (j : Nat) (h : j < word.length) : afterL ss (word.take (j + 1)) = nextL ss (afterL ss (word.take j)) (word.getD j 0) := by
  unfold afterL
  rw [take_next word j 0 h, List.foldl_append]
  rfl
theorem afterL_zero (ss : List (List Edg)) (word : List Int) : afterL ss (word.take 0) = [0] := rfl
theorem afterL_facts {ss : List (List Edg)} (h : 1 ≤ ss.length) (word : List Int) : ∀ j, j ≤ word.length → (∀ y ∈ afterL ss (word.take j), y < ss.length) ∧ (afterL ss (word.take j)).length ≤ ss.length ∧ (afterL ss (word.take j)).Pairwise (· < ·)
  | 0, _ => by
    rw [afterL_zero]
    exact ⟨fun y hy => by simp at hy; omega, by simpa using h, by simp⟩
  | j + 1, hj => by
    rw [afterL_next ss word j (by omega)]
    exact ⟨nextL_lt, nextL_len _ _ _, nextL_sorted _ _ _⟩
theorem leads_take {l : List Edg} {t : Nat} (h : t < l.length) (a : Int) (y : Nat) : leads (l.take (t + 1)) a y = (leads (l.take t) a y || (decide ((l.getD t (0, 0)).1 = a) && decide ((l.getD t (0, 0)).2 = (y : Int)))) := by
  unfold leads
  rw [take_next l t (0, 0) h, List.any_append]
  simp
theorem hitP_take {ss : List (List Edg)} {l : List Nat} {j : Nat} (h : j < l.length) (a : Int) (y : Nat) : hitP ss (l.take (j + 1)) a y = (hitP ss (l.take j) a y || leads (stAt ss (l.getD j 0)) a y) := by
  unfold hitP
  rw [take_next l j 0 h, List.any_append]
  simp

/-! ### rows of Booleans -/
def boolsP (k : Nat) (P : Nat → Bool) : List Value := (List.range k).map fun y => .bool (P y)
theorem boolsP_length (k : Nat) (P : Nat → Bool) : (boolsP k P).length = k := by simp [boolsP]
theorem boolsP_at {k y : Nat} (P : Nat → Bool) (h : y < k) : (boolsP k P)[y]? = some (.bool (P y)) := by simp [boolsP, h]
theorem boolsP_congr {k : Nat} {P Q : Nat → Bool} (h : ∀ y, y < k → P y = Q y) : boolsP k P = boolsP k Q := by
  unfold boolsP
  refine List.map_congr_left fun y hy => ?_
  rw [h y (List.mem_range.1 hy)]
theorem boolsP_set {k t : Nat} (P : Nat → Bool) (ht : t < k) : (boolsP k P).set t (.bool true) = boolsP k (fun y => P y || decide (y = t)) := by
  refine List.ext_getElem? fun i => ?_
  rw [List.getElem?_set]
  by_cases hi : i < k
  · by_cases e : t = i
    · subst e
      rw [if_pos rfl, if_pos (by rw [boolsP_length]; exact hi), boolsP_at _ hi]
      simp
    · rw [if_neg e, boolsP_at P hi, boolsP_at _ hi, decide_eq_false (fun h => e h.symm), Bool.or_false]
  · rw [List.getElem?_eq_none (by rw [boolsP_length]; omega)]
    by_cases e : t = i
    · omega
    · rw [if_neg e, List.getElem?_eq_none (by rw [boolsP_length]; omega)]
theorem boolsP_none (k : Nat) : List.replicate k (Value.bool false) = boolsP k (fun _ => false) := by
  refine List.ext_getElem (by simp [boolsP]) fun i h1 h2 => ?_
  simp [boolsP]
end Go.Proofs.YtohljainhkdiiaaGreatDoor.Pl
