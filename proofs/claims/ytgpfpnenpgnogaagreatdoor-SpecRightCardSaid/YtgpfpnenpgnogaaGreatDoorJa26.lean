/- Texts joined: SatG, FaultPl, IsW, Word, CopyA. -/
import Derived.Test.YtgpfpnenpgnogaaGreatDoorJa25
import Derived.Sort.OwnSortedInts
import Derived.Test.YtgpfpnenpgnogaaGreatDoorJa01
import Derived.Test.YtgpfpnenpgnogaaGreatDoorJa09
import Derived.Test.YtgpfpnenpgnogaaGreatDoorJa04
import Derived.Test.YtgpfpnenpgnogaaGreatDoorJa12
import Derived.Test.YtgpfpnenpgnogaaGreatDoorJa18
/- spell; noPairs. -/
namespace Go.Proofs.YtgpfpnenpgnogaaGreatDoor
open Go.RowKit Go.Sort Pl

theorem grow_nil (W : World) : grow W #[] = W := by simp [grow]
/-- slices.Reverse of a row of the call's own -/
theorem rev_any {w : World} {base : Nat} {v : Value} {l : List Int} (h : NumO w base v l) (hl : l.length ≤ 10000000) :
    Calls Tryz.prog 76 #[v] w fun e w' => e = .returned (.tuple #[]) ∧ NumO w' base v l.reverse ∧ Below base w w' := by
  have hO := h
  rcases h.2 with ⟨rfl, h0⟩ | ⟨g, cap, cur, rfl, hg, hh, hc, hm, hsz, ht⟩
  · refine (Tryz.slices_Reverse_int_empty none 0 w).mono ?_
    rintro e w' ⟨rfl, rfl⟩
    have e1 : l = [] := List.length_eq_zero_iff.1 h0
    subst e1
    exact ⟨rfl, hO, Below.refl _ _⟩
  · have ht' : cur.toList.take l.length = l.map (Value.int .i64) := by rw [← ht, Nat.mul_one]
    have hC := Tryz.slices_Reverse_int g 0 cap l w (holds_of_blockI hh ht') (by omega)
    refine hC.mono ?_
    rintro e w' ⟨rfl, q, rfl⟩
    have hw := ownsRow_sortedI (n := q) (os := #[]) List.length_reverse hg hh hc hm hsz
    rw [grow_nil] at hw
    have hgr := grownBy_sortedI (w := w) (g := g) (n := q) (os := #[]) l.reverse.toArray
    rw [grow_nil] at hgr
    refine ⟨rfl, ?_, (Below.refl _ w).grown hgr (Nat.le_trans hg (Nat.le_of_lt (Array.getElem?_eq_some_iff.1 hh).1)) (fun k hk => by cases hk; exact hg)⟩
    unfold NumO
    rw [List.length_reverse]
    exact hw

/-! ### the queue in memory -/
def qcells (Q : List Wt) : List Value := Q.flatMap fun t => [.int .i64 t.before, .int .i64 t.last, .int .i64 t.x, .int .i64 t.y]
theorem qcells_length : ∀ Q : List Wt, (qcells Q).length = Q.length * 4
  | [] => rfl
  | t :: Q => by
    have := qcells_length Q
    simp only [qcells, List.flatMap_cons, List.length_append, List.length_cons, List.length_nil] at this ⊢
    omega
theorem qcells_at : ∀ (Q : List Wt) (k : Nat), k < Q.length → (qcells Q)[k * 4]? = some (.int .i64 (wtAt Q k).before) ∧ (qcells Q)[k * 4 + 1]? = some (.int .i64 (wtAt Q k).last) ∧ (qcells Q)[k * 4 + 2]? = some (.int .i64 (wtAt Q k).x) ∧ (qcells Q)[k * 4 + 3]? = some (.int .i64 (wtAt Q k).y)
  | [], _, h => by simp at h
  | t :: Q, 0, _ => by simp [qcells, wtAt]
  | t :: Q, k + 1, h => by
    have := qcells_at Q k (by simpa using h)
    have e : qcells (t :: Q) = .int .i64 t.before :: .int .i64 t.last :: .int .i64 t.x :: .int .i64 t.y :: qcells Q := rfl
    have e2 : wtAt (t :: Q) (k + 1) = wtAt Q k := by simp [wtAt, List.getD]
    rw [e, e2, show (k + 1) * 4 = k * 4 + 1 + 1 + 1 + 1 by omega]
    simpa using this
theorem qcells_snoc (Q : List Wt) (t : Wt) : qcells (Q ++ [t]) = qcells Q ++ [.int .i64 t.before, .int .i64 t.last, .int .i64 t.x, .int .i64 t.y] := by simp [qcells]
/-- places point back -/
def Bef (Q : List Wt) : Prop := ∀ k, k < Q.length → 0 < k → (wtAt Q k).before < k
theorem spell_fuel {Q : List Wt} (hb : Bef Q) : ∀ (p : Nat), p < Q.length → ∀ f, p ≤ f → spellQ Q f p = spellQ Q p p := by
  intro p
  induction p using Nat.strongRecOn with
  | ind p ih =>
    intro hp f hf
    rcases Nat.eq_zero_or_pos p with rfl | h0
    · cases f <;> rfl
    · obtain ⟨f', rfl⟩ : ∃ f', f = f' + 1 := ⟨f - 1, by omega⟩
      obtain ⟨p', rfl⟩ : ∃ p', p = p' + 1 := ⟨p - 1, by omega⟩
      have h1 := hb (p' + 1) hp h0
      unfold spellQ
      rw [if_neg (by omega), if_neg (by omega)]
      rw [ih _ h1 (by omega) f' (by omega), ih _ h1 (by omega) p' (by omega)]
theorem spell_next {Q : List Wt} (hb : Bef Q) {p : Nat} (hp : p < Q.length) (h0 : 0 < p) : spellQ Q p p = spellQ Q (wtAt Q p).before (wtAt Q p).before ++ [(wtAt Q p).last] := by
  obtain ⟨p', rfl⟩ : ∃ p', p = p' + 1 := ⟨p - 1, by omega⟩
  have h1 := hb (p' + 1) hp h0
  conv => lhs; unfold spellQ
  rw [if_neg (by omega), spell_fuel hb _ (by omega) p' (by omega)]
theorem spell_len {Q : List Wt} : ∀ f p, (spellQ Q f p).length ≤ f
  | 0, _ => by simp [spellQ]
  | f + 1, p => by
    unfold spellQ
    split
    · simp
    · have := spell_len (Q := Q) f (wtAt Q p).before
      simp; omega

set_option maxRecDepth 100000 in
set_option maxHeartbeats 4000000 in
theorem spell_any {w : World} {B gq n c i : Nat} {Q : List Wt} (h : w.ownsRow B 88 4 (.slice (some ⟨gq, 0, none⟩) n c) n (qcells Q)) (hn : Q.length = n) (hb : Bef Q) (hi : i < n) (h6 : n ≤ 3000000) :
    Calls Tryz.prog 37 #[.slice (some ⟨gq, 0, none⟩) n c, .int .i64 i] w fun e w' => ∃ v, e = .returned v ∧ NumO w' w.heap.size v (spellQ Q i i) ∧ Below w.heap.size w w' := by
  obtain ⟨i1, hi1, hz10, hz11, hz12⟩ := info_parts infoNumS
  have H := Lib.hid h
  have HN := Lib.hid hn
  have HB := Lib.hid hb
  clear h hn hb
  go_enter Tryz.func37, Tryz.ntmps37
  go_wp2
  go_loopw [1, 5] (fun pv v wr => ∃ (p : Nat) (l : List Int), pv = .int .i64 p ∧ p + l.length ≤ i ∧ Hid (NumO wr w.heap.size v l) ∧ Hid (spellQ Q i i = spellQ Q p p ++ l.reverse) ∧ Hid (Below w.heap.size w wr)) (fun pv _ _ => (intOf pv).toNat)
  case atStart => exact ⟨i, [], rfl, by simp, Lib.hid (World.ownsRow_nil _ _ _ _), Lib.hid (by simp), Lib.hid (Below.refl _ _)⟩
  case round =>
    obtain ⟨p, l, rfl, hp, hl, hs, hb⟩ := hrel
    have hzr := hb.out.size
    obtain ⟨va, vc, rfl⟩ := own_slice' hl.out
    by_cases h0 : 0 < p
    · have hpn : p < n := by omega
      have hq := (H.out.kept (below_grown' hb.out) (by cases (Value.slice (some ⟨gq, 0, none⟩) n c).ownBlock <;> simp))
      obtain ⟨e0, e1, _, _⟩ := qcells_at Q p (by have := HN.out; omega)
      have c0 := hq.cellAt (p * 4) (by omega)
      have c1 := hq.cellAt (p * 4 + 1) (by omega)
      rw [e0] at c0
      rw [e1] at c1
      have hbf := HB.out p (by have := HN.out; omega) h0
      obtain ⟨bf, HBf⟩ : ∃ z, Hid ((wtAt Q p).before = z) := ⟨_, Lib.hid rfl⟩
      obtain ⟨la, HLa⟩ : ∃ z, Hid ((wtAt Q p).last = z) := ⟨_, Lib.hid rfl⟩
      rw [HBf.out] at c0 hbf
      rw [HLa.out] at c1
      have HS2 : Hid (spellQ Q i i = spellQ Q bf bf ++ (l ++ [la]).reverse) := Lib.hid (by
        rw [hs.out, spell_next HB.out (by have := HN.out; omega) h0, HBf.out, HLa.out]
        simp)
      have HOW := Lib.hid (hl.out.alloc (.cells #[.int .i64 la] 3))
      have c0' := cell_new c0 (.cells #[.int .i64 la] 3)
      have p0 : (0 : Int) < (p : Int) := by omega
      have p1 : (p : Int) < (n : Int) := by omega
      have p2 : (0 : Int) ≤ (p : Int) := by omega
      clear hq e0 e1
      go_wp2_with (at_builtin; (refine wpList_append_sz rfl (.tmp 14) (.tmp 21) 37 rfl w.heap.size 3 i1 (.int .i64 0) 1 8 Tryz.underlying37 hi1 hz10 hz11 hz12 rfl (by decide) (.slice va l.length vc) rfl l.length (l.map (Value.int .i64)) HOW.out (some ⟨wr.heap.size, 0, none⟩) 1 1 rfl [.int .i64 la] (fun h => by cases h) rfl (one_src _ _ _) (by simp [Value.oneCell']) (by unfold maxLen; omega) (by omega) (by simp; omega) ?_); intro v2 w2 hv2 hg2 hat2; refine Hid.out ?_)
      refine Lib.hid ?_
      have hb2 : Below w.heap.size w w2 := (hb.out.alloc hzr (.cells #[.int .i64 la] 3)).grown hg2 (by simp; omega) (own_ge HOW.out)
      have HB2 := Lib.hid hb2
      have HV2 : Hid (NumO w2 w.heap.size v2 (l ++ [la])) := Lib.hid (by unfold NumO; rw [List.length_append, List.map_append]; exact hv2)
      have hq2 := (H.out.kept (below_grown' hb2) (by cases (Value.slice (some ⟨gq, 0, none⟩) n c).ownBlock <;> simp))
      have c2 := hq2.cellAt (p * 4) (by omega)
      obtain ⟨e0, _, _, _⟩ := qcells_at Q p (by have := HN.out; omega)
      rw [e0, HBf.out] at c2
      clear hv2 hg2 hat2 hb2 hq2 e0 c0 c0' c1
      go_wp2
      go_roundw
      case rel => exact ⟨bf, l ++ [la], rfl, by simp; omega, HV2, HS2, HB2⟩
      case measure => simp [intOf]; omega
    · have hp0 : p = 0 := by omega
      subst hp0
      have HS2 : Hid (spellQ Q i i = l.reverse) := Lib.hid (by rw [hs.out]; simp [spellQ])
      have HR := Lib.hid (rev_any hl.out (by omega))
      go_wp2_with fail
      refine HR.out.mono ?_
      rintro e w2 ⟨rfl, hv2, hb2⟩
      have HV2 := Lib.hid hv2
      have HB2 := Lib.hid (hb.out.trans hb2)
      clear hv2 hb2
      go_wp2
      go_ret
      exact ⟨_, rfl, by rw [HS2.out]; exact HV2.out, HB2.out⟩
end Go.Proofs.YtgpfpnenpgnogaaGreatDoor
/- Plain facts: what shows that a system does not satisfy a specification; nothing here is about a program. -/
namespace Go.Proofs.YtgpfpnenpgnogaaGreatDoor.Pl
open Go Go.Lib

/-- a state of the system offers what a state of the specification, or none, accepts -/
def goodB (m : Syst) (s : Spc) (x : Nat) (y : Int) : Bool := decide (0 ≤ y) && fitB m s x y.toNat
def badB (m : Syst) (s : Spc) (l : List Nat) (y : Int) : Bool := l.any fun x => !goodB m s x y
def nextI (s : Spc) (y a : Int) : Int := (teAt s.states y.toNat).2.getD a.toNat 0
/-- along a list: the states of the system, and the one of the specification; nothing where the list is no fault -/
def faultF (m : Syst) (s : Spc) : List Int → List Nat → Int → Option (List Nat × Int)
  | [], l, y => some (l, y)
  | a :: w, l, y => if l = [] ∨ badB m s l y = true then none else if nextI s y a < 0 ∧ nextL m.states l a = [] then none else faultF m s w (nextL m.states l a) (nextI s y a)
def faultB (m : Syst) (s : Spc) (word : List Int) (at_ : Int) : Bool :=
  actsK m.acts.length word && match faultF m s word [0] 0 with
  | none => false
  | some (l, y) => decide (at_ ∈ l.map (fun (x : Nat) => (x : Int))) && !goodB m s at_.toNat y
theorem faultF_stop {m : Syst} {s : Spc} {a : Int} {w : List Int} {l : List Nat} {y : Int} (h : l = [] ∨ badB m s l y = true) : faultF m s (a :: w) l y = none := by
  unfold faultF
  rw [if_pos h]
theorem faultF_lost {m : Syst} {s : Spc} {a : Int} {w : List Int} {l : List Nat} {y : Int} (h : ¬ (l = [] ∨ badB m s l y = true)) (h2 : nextI s y a < 0 ∧ nextL m.states l a = []) : faultF m s (a :: w) l y = none := by
  unfold faultF
  rw [if_neg h, if_pos h2]
theorem faultF_go {m : Syst} {s : Spc} {a : Int} {w : List Int} {l : List Nat} {y : Int} (h : ¬ (l = [] ∨ badB m s l y = true)) (h2 : ¬ (nextI s y a < 0 ∧ nextL m.states l a = [])) : faultF m s (a :: w) l y = faultF m s w (nextL m.states l a) (nextI s y a) := by
  rw [faultF, if_neg h, if_neg h2]
theorem good_pos {m : Syst} {s : Spc} {l : List Nat} {y : Int} (h : ¬ (l = [] ∨ badB m s l y = true)) : 0 ≤ y := by
  cases l with
  | nil => exact absurd (.inl rfl) h
  | cons x l =>
    have h1 : ¬ badB m s (x :: l) y = true := fun e => h (.inr e)
    unfold badB at h1
    rw [List.any_cons, Bool.or_eq_true, not_or] at h1
    have h2 := h1.1
    unfold goodB at h2
    rcases Int.lt_or_le y 0 with h3 | h3
    · rw [decide_eq_false (by omega)] at h2
      simp at h2
    · exact h3
theorem nextI_rng {s : Spc} (hv : spcB s = true) {y a : Int} (hy : 0 ≤ y ∧ y < s.states.length) (ha : 0 ≤ a ∧ a < s.acts.length) : -1 ≤ nextI s y a ∧ nextI s y a < s.states.length ∧ a.toNat < (teAt s.states y.toNat).2.length := by
  have h := ((spcB_iff s).1 hv).2.2.2 y.toNat (by omega)
  unfold steB at h
  rw [Bool.and_eq_true, nextB_iff] at h
  have h2 := h.1.2 a.toNat (by rw [h.1.1]; omega)
  rw [okNext_iff] at h2
  exact ⟨h2.1, h2.2, by rw [h.1.1]; omega⟩
end Go.Proofs.YtgpfpnenpgnogaaGreatDoor.Pl
/- Words of actions: terms.IsWord, the reference's Word. -/
namespace Go.Proofs.YtgpfpnenpgnogaaGreatDoor
open Go.RowKit Pl

theorem RActions_any' {w : World} {wa : Option Addr} {wn wc : Nat} {word : List Int} (n : Nat) (_hn : n ≤ 9223372036854775807) (L : IntArg w wa wn wc word) :
    Calls Tryz.prog 41 #[.int .i64 n, .slice wa wn wc] w fun e w' => e = .returned (.bool (actsK n word)) ∧ w = w' := by
  have HL := Lib.hid L
  have HLL := Lib.hid L.len
  have hwn : wn ≤ 9223372036854775807 := L.big
  clear L
  go_enter Tryz.func41, Tryz.ntmps41
  go_wp2
  go_loop [6, 9] (fun _ i => ∃ j : Nat, j ≤ wn ∧ i = .int .i64 j ∧ Hid (∀ x, x < j → 0 ≤ word.getD x 0 ∧ word.getD x 0 < n)) (fun _ i => wn - (intOf i).toNat)
  case atStart => exact ⟨0, Nat.zero_le _, rfl, Lib.hid fun x hx => by omega⟩
  case round =>
    obtain ⟨j, hj, rfl, hg⟩ := hrel
    by_cases hlt : j < wn
    · obtain ⟨bl, ol, rfl, c1⟩ := HL.out.cells j (by have := HLL.out; omega)
      obtain ⟨x, HX⟩ : ∃ x, Hid (word.getD j 0 = x) := ⟨_, Lib.hid rfl⟩
      rw [HX.out] at c1
      by_cases hx0 : x < 0
      · have HB : Hid (actsK n word = false) := Lib.hid (actsK_bad (k := j) (by have := HLL.out; omega) (actK_no (.inl (by rw [HX.out]; exact hx0))))
        go_wp2
        go_ret
        exact ⟨by rw [HB.out]; rfl, rfl⟩
      · by_cases hx1 : (n : Int) ≤ x
        · have HB : Hid (actsK n word = false) := Lib.hid (actsK_bad (k := j) (by have := HLL.out; omega) (actK_no (.inr (by rw [HX.out]; exact hx1))))
          go_wp2
          go_ret
          exact ⟨by rw [HB.out]; rfl, rfl⟩
        · have HG : Hid (∀ z, z < j + 1 → 0 ≤ word.getD z 0 ∧ word.getD z 0 < n) := Lib.hid fun z hz => by
            by_cases e : z = j
            · rw [e, HX.out]; omega
            · exact hg.out z (by omega)
          go_wp2
          go_round
          case rel => exact ⟨j + 1, by omega, by go_num, HG⟩
          case measure => simp [intOf]; omega
    · have HB : Hid (actsK n word = true) := Lib.hid ((actsK_iff n word).2 (fun z hz => hg.out z (by have := HLL.out; omega)))
      go_wp2
      go_ret
      exact ⟨by rw [HB.out]; rfl, rfl⟩
end Go.Proofs.YtgpfpnenpgnogaaGreatDoor
/- The reference's Offer. -/
namespace Go.Proofs.YtgpfpnenpgnogaaGreatDoor
open Go.RowKit Pl

set_option maxHeartbeats 1000000 in
/-- the reference's Offer -/
theorem ROffer_any {w : World} {a : Option Addr} {n c : Nat} {b : Option Addr} {k d : Nat} {m : Syst} (A : SysArg w a n c b k d m) (hv : sysB m = true) (x : Nat) (hx : x < m.states.length) :
    Calls Tryz.prog 73 #[.agg #[.slice a n c, .slice b k d], .int .i64 x] w fun e w' => e = .returned (.int .i64 (offN (stAt m.states x))) ∧ Below w.heap.size w w' := by
  have HV := Lib.hid hv
  have HX := Lib.hid hx
  have hb0 := (Below.refl w.heap.size w).alloc (Nat.le_refl _) (.cells #[.slice a n c, .slice b k d] 25)
  obtain ⟨bb, off, rfl, ai, ni, ci, c0, hE⟩ := A.rows x hx
  have c1 := cell_new c0 (.cells #[.slice a n c, .slice (some ⟨bb, off, none⟩) k d] 25)
  have HE := Lib.hid hE
  have hk : k ≤ 140737488355328 := A.big
  have hni : ni ≤ 140737488355328 := by have := hE.cap; have := hE.big; omega
  have hx0 : (0 : Int) ≤ (x : Int) := by omega
  have hx1 : (x : Int) < (k : Int) := by have := A.len; omega
  have hna : m.acts.length ≤ 8 := ((actsB_iff m.acts).1 ((sysB_iff m).1 hv).1).1
  have h8 : Hid (∀ t, t < (stAt m.states x).length → 0 ≤ (edAt (stAt m.states x) t).1 ∧ (edAt (stAt m.states x) t).1 < 8) := Lib.hid fun t ht => by
    have hok : okE m.acts.length m.states.length (edAt (stAt m.states x) t) = true := edge_in (((sysB_iff m).1 hv).2.2.2.1 x hx) (by unfold edAt; rw [List.getD_eq_getElem?_getD, List.getElem?_eq_getElem ht]; exact List.getElem_mem ht)
    have := (okE_iff _ _ _).1 hok
    omega
  have HB0 := Lib.hid hb0
  clear A hv hx hb0 hE c0
  go_enter Tryz.func73, Tryz.ntmps73
  go_wp2
  go_loopw [5, 7, 14] (fun s _ i wr => ∃ t q : Nat, t ≤ ni ∧ i = .int .i64 t ∧ s = .int .i64 q ∧ q < 256 ∧ Hid (q = offN ((stAt m.states x).take t)) ∧ Below w.heap.size w wr) (fun _ _ i _ => ni - (intOf i).toNat)
  case atStart => exact ⟨0, 0, Nat.zero_le _, rfl, rfl, by decide, Lib.hid rfl, HB0.out⟩
  case round =>
    obtain ⟨t, q, ht, rfl, rfl, hq, hqb, hb⟩ := hrel
    by_cases hlt : t < ni
    · obtain ⟨be, oe, rfl, d1, d2⟩ := (HE.out.cells.below hb) t (by have := HE.out.len; omega)
      obtain ⟨h1, h2⟩ := h8.out t (by have := HE.out.len; omega)
      obtain ⟨u, hu⟩ := Int.eq_ofNat_of_zero_le h1
      obtain ⟨x2, hx2⟩ : ∃ x2, x2 = (edAt (stAt m.states x) t).2 := ⟨_, rfl⟩
      rw [← hx2] at d2
      rw [hu] at d1 h2
      obtain ⟨R, HR⟩ : ∃ R : Nat, Hid (R = q ||| 2 ^ u) := ⟨_, Lib.hid rfl⟩
      have hR : R < 256 := by rw [HR.out]; exact Nat.or_lt_two_pow (n := 8) hq (Nat.pow_lt_pow_right (by decide) (by omega))
      have HT : Hid (R = offN ((stAt m.states x).take (t + 1))) := Lib.hid (by rw [offN_take (by have := HE.out.len; omega), hu, ← hqb.out, HR.out]; rfl)
      have HO : Hid (bits .or .i64 (q : Int) (wrap64 (2 ^ u)) = (R : Int)) := Lib.hid (by
        have h2 := pow_le u (by omega)
        have h3 : ((2 ^ u : Nat) : Int) = (2 : Int) ^ u := by norm_cast
        have h4 : 2 ^ u < 256 := Nat.pow_lt_pow_right (n := 8) (by decide) (by omega)
        rw [IntWalk.wrap64_in _ ⟨by omega, by omega⟩, ← h3, HR.out]
        exact i64_or_nat q _ (by omega) (by omega))
      have HB := Lib.hid (hb.alloc hb.size (.cells #[.int .i64 u, .int .i64 x2] 69))
      clear hb h1 hu hx2
      go_wp2
      rw [HO.out]
      go_wp2
      go_roundw
      case rel => exact ⟨t + 1, R, by omega, by go_num, rfl, hR, HT, HB.out⟩
      case measure => simp [intOf]; omega
    · have HF : Hid (q = offN (stAt m.states x)) := Lib.hid (by
        have := hqb.out
        rw [List.take_of_length_le (by have := HE.out.len; omega)] at this
        exact this)
      have HB := Lib.hid hb
      clear hb
      go_wp2
      go_ret
      exact ⟨by rw [HF.out]; rfl, HB.out⟩
end Go.Proofs.YtgpfpnenpgnogaaGreatDoor
/- The reference's Copy, as an argument of another call. -/
namespace Go.Proofs.YtgpfpnenpgnogaaGreatDoor
open Go.RowKit Pl

/-- a copy, as an argument of another call -/
theorem CopyA_any {w : World} {a : Option Addr} {n c : Nat} {b : Option Addr} {k d : Nat} {m : Syst} (A : SysArg w a n c b k d m) (hq : m.acts.length + m.states.length + total m.states ≤ 1000000) :
    Calls Tryz.prog 12 #[.agg #[.slice a n c, .slice b k d]] w fun e w' => ∃ a2 c2 b2 d2, e = .returned (.agg #[.slice a2 m.acts.length c2, .slice b2 m.states.length d2]) ∧ SysArg w' a2 m.acts.length c2 b2 m.states.length d2 m ∧ Below w.heap.size w w' := by
  refine (Copy_any A hq).mono ?_
  rintro e w2 ⟨va, vs, rfl, hO, hb2⟩
  obtain ⟨a2, c2, b2, d2, rfl, rfl, hA2⟩ := hO.arg (by omega) (by omega) (fun i hi => by have := total_take_le m.states (i + 1); have := total_take m.states i hi; omega) (fun k hk => A.acts.sz k (by have := A.acts.len; omega))
  exact ⟨a2, c2, b2, d2, rfl, hA2, hb2⟩
end Go.Proofs.YtgpfpnenpgnogaaGreatDoor
