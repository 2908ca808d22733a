/- Texts joined: RSpc, RSpc2. -/
import Derived.Test.YtohljainhkdiiaaGreatDoorJp14
import Derived.Test.YtohljainhkdiiaaGreatDoorJp25
import Derived.Test.YtohljainhkdiiaaGreatDoorJp04
import Derived.Test.YtohljainhkdiiaaGreatDoorJp16
/- The reference's Rising and state. -/
namespace Go.Proofs.YtohljainhkdiiaaGreatDoor
open Go.RowKit Pl

def risAll (l : List Int) : Bool := (List.range l.length).all (risB l)
theorem risAll_iff (l : List Int) : risAll l = true ↔ ∀ i, i < l.length → risB l i = true := by
  simp only [risAll, List.all_eq_true, List.mem_range]
theorem ris_next {l : List Int} {p : Nat} {z x : Int} (hz : l.getD p 0 = z) (hx : l.getD (p + 1) 0 = x) (h : z < x) : risB l (p + 1) = true := by
  unfold risB
  rw [Nat.add_sub_cancel, hz, hx, decide_eq_true h, Bool.or_true]
theorem ris_bad {l : List Int} {p : Nat} {z x : Int} (hz : l.getD p 0 = z) (hx : l.getD (p + 1) 0 = x) (h : ¬ z < x) : risB l (p + 1) = false := by
  unfold risB
  rw [Nat.add_sub_cancel, hz, hx, decide_eq_false h, Bool.or_false]
  exact decide_eq_false (by omega)
theorem accB_ris {acc next : List Int} (h : risAll acc = false) : accB acc next = false := by
  rw [Bool.eq_false_iff, Ne, accB_iff]
  intro h'
  rw [Bool.eq_false_iff, Ne, risAll_iff] at h
  exact h fun i hi => (h' i hi).2
theorem nextB_len {na ns : Nat} {next : List Int} (h : next.length ≠ na) : nextB na ns next = false := by
  rw [Bool.eq_false_iff, Ne, nextB_iff]
  exact fun h' => h h'.1
theorem nextB_out {na ns : Nat} {next : List Int} (j : Nat) (hj : j < next.length) (h : okNext ns (next.getD j 0) = false) : nextB na ns next = false := by
  rw [Bool.eq_false_iff, Ne, nextB_iff]
  intro h'
  rw [h'.2 j hj] at h
  cases h
theorem ste_next {na ns : Nat} {t : Ste} (h : nextB na ns t.2 = false) : steB na ns t = false := by unfold steB; rw [h]; rfl
theorem ste_acc {na ns : Nat} {t : Ste} (h : accB t.1 t.2 = false) : steB na ns t = false := by unfold steB; rw [h, Bool.and_false]
theorem okSet_of {na X : Nat} {next : List Int} (hna : na ≤ 8) (hl : next.length = na) (hX : X < 2 ^ na) : okSet next (X : Int) = true ↔ ∀ a ∈ bitsL na X, leadP next a = true := by
  rw [okSet_iff, Int.toNat_natCast]
  constructor
  · rintro ⟨_, h⟩ a ha
    obtain ⟨h1, h2⟩ := List.mem_filter.1 ha
    exact h a (by have := List.mem_range.1 h1; omega) h2
  · intro h
    refine ⟨by omega, fun a _ hb => h a (List.mem_filter.2 ⟨List.mem_range.2 ?_, hb⟩)⟩
    by_cases e : a < na
    · exact e
    · rw [Nat.testBit_lt_two_pow (Nat.lt_of_lt_of_le hX (Nat.pow_le_pow_right (by decide) (by omega)))] at hb
      cases hb
theorem okSet_set {na : Nat} {x : Int} {next : List Int} (hl : next.length = na) (hx : x ≤ 9223372036854775807) (h : setB na x = false) : okSet next x = false := by
  rw [Bool.eq_false_iff, Ne, okSet_iff]
  rintro ⟨h0, h1⟩
  have h2 : x.toNat < 2 ^ na := Nat.lt_pow_two_of_testBit _ fun i hi => by
    by_cases h64 : i < 64
    · cases hb : x.toNat.testBit i
      · rfl
      · have := h1 i h64 hb
        unfold leadP at this
        rw [decide_eq_false (by omega)] at this
        cases this
    · exact Nat.testBit_lt_two_pow (Nat.lt_of_lt_of_le (show x.toNat < 2 ^ 64 by omega) (Nat.pow_le_pow_right (by decide) (by omega)))
  have h3 : x < 2 ^ na := by
    have : ((2 ^ na : Nat) : Int) = (2 : Int) ^ na := by norm_cast
    omega
  rw [setB, decide_eq_true h0, decide_eq_true h3] at h
  cases h
theorem set_nat {na : Nat} {x : Int} (h : setB na x = true) : ∃ X : Nat, x = (X : Int) ∧ X < 2 ^ na := by
  unfold setB at h
  rw [Bool.and_eq_true, decide_eq_true_eq, decide_eq_true_eq] at h
  refine ⟨x.toNat, by omega, ?_⟩
  have : ((2 ^ na : Nat) : Int) = (2 : Int) ^ na := by norm_cast
  omega

def natsI (l : List Nat) : List Int := l.map fun (x : Nat) => (x : Int)
theorem natsI_length (l : List Nat) : (natsI l).length = l.length := by simp [natsI]
theorem natsI_at {l : List Nat} {j : Nat} (h : j < l.length) : (natsI l).getD j 0 = ((l.getD j 0 : Nat) : Int) := by
  unfold natsI
  rw [List.getD_eq_getElem?_getD, List.getElem?_map, List.getElem?_eq_getElem h, List.getD_eq_getElem?_getD, List.getElem?_eq_getElem h]
  rfl
theorem nats_arg {w : World} {base : Nat} {v : Value} {l : List Nat} (h : w.ownsRow base 3 1 v l.length (l.map fun k : Nat => Value.int .i64 k)) (hl : l.length ≤ 140737488355328) : ∃ a c, v = .slice a l.length c ∧ IntArg w a l.length c (natsI l) := by
  rcases h.2 with ⟨rfl, h0⟩ | ⟨g, cap, cur, rfl, hg, hh, hc, hm, hz, ht⟩
  · rw [h0]
    exact ⟨none, 0, rfl, ⟨fun _ => rfl, by rw [natsI_length, h0], Nat.le_refl _, by omega, fun j hj => by rw [natsI_length, h0] at hj; omega⟩⟩
  · refine ⟨some ⟨g, 0, none⟩, cap, rfl, ⟨(fun h => by cases h), (natsI_length l).symm, hc, by omega, fun j hj => ⟨g, 0, rfl, ?_⟩⟩⟩
    rw [natsI_length] at hj
    rw [Nat.zero_add, World.ownsRow.cellAt h j (by omega), List.getElem?_map, List.getElem?_eq_getElem hj, natsI_at hj, List.getD_eq_getElem?_getD, List.getElem?_eq_getElem hj]
    rfl

set_option maxHeartbeats 1000000 in
theorem Rising_any {w : World} {a : Option Addr} {n c : Nat} {xs : List Int} (A : IntArg w a n c xs) :
    Calls Tryz.prog 114 #[.slice a n c] w fun e w' => e = .returned (.bool (risAll xs)) ∧ Below w.heap.size w w' := by
  have HA := Lib.hid A
  have HL := Lib.hid A.len
  have hbig : n ≤ 9223372036854775807 := A.big
  clear A
  go_enter Tryz.func114, Tryz.ntmps114
  go_wp2
  go_loopw [3] (fun i wr => ∃ j : Nat, 1 ≤ j ∧ (j ≤ n ∨ j = 1) ∧ i = .int .i64 j ∧ Hid (∀ x, x < j → risB xs x = true) ∧ Below w.heap.size w wr) (fun i _ => n - (intOf i).toNat)
  case atStart => exact ⟨1, Nat.le_refl _, .inr rfl, rfl, Lib.hid (fun x hx => by have e : x = 0 := (by omega); rw [e]; rfl), Below.refl _ _⟩
  case round =>
    obtain ⟨j, hj1, hj, rfl, hg, hb⟩ := hrel
    by_cases hlt : j < n
    · obtain ⟨p, rfl⟩ : ∃ p, j = p + 1 := ⟨j - 1, by omega⟩
      obtain ⟨bl, ol, rfl, c1⟩ := (HA.out.below hb).cells p (by have := HL.out; omega)
      obtain ⟨bl', ol', e, c2⟩ := (HA.out.below hb).cells (p + 1) (by have := HL.out; omega)
      cases e
      obtain ⟨z, HZ⟩ : ∃ z, Hid (xs.getD p 0 = z) := ⟨_, Lib.hid rfl⟩
      obtain ⟨x, HX⟩ : ∃ x, Hid (xs.getD (p + 1) 0 = x) := ⟨_, Lib.hid rfl⟩
      rw [HZ.out] at c1
      rw [HX.out] at c2
      have hk1 : IntKind.i64.wrap (p : Int) = (p : Int) := IntWalk.i64_in _ (by omega)
      have hk2 : (0 : Int) ≤ (p : Int) := by omega
      have hk4 : (p : Int) < n := by omega
      clear hj hj1
      by_cases hzx : z < x
      · have HG : Hid (∀ q, q < p + 1 + 1 → risB xs q = true) := Lib.hid fun q hq => by
          by_cases e : q = p + 1
          · rw [e]; exact ris_next HZ.out HX.out hzx
          · exact hg.out q (by omega)
        have hzx2 : ¬ x ≤ z := by omega
        go_wp2
        go_quiet (fail)
        go_wp2
        go_roundw
        case rel => exact ⟨p + 1 + 1, by omega, .inl (by omega), by go_num, HG, below_drewN hb _⟩
        case measure => simp [intOf]; omega
      · have HB : Hid (risAll xs = false) := Lib.hid (by
          rw [Bool.eq_false_iff, Ne, risAll_iff]
          intro h
          have := h (p + 1) (by have := HL.out; omega)
          rw [ris_bad HZ.out HX.out hzx] at this
          cases this)
        have hzx2 : x ≤ z := by omega
        go_wp2
        go_quiet (fail)
        go_wp2
        go_ret
        exact ⟨by rw [HB.out]; rfl, below_drewN hb _⟩
    · have HB : Hid (risAll xs = true) := Lib.hid ((risAll_iff _).2 fun i hi => hg.out i (by have := HL.out; omega))
      clear hj hj1
      go_wp2
      go_ret
      exact ⟨by rw [HB.out]; rfl, hb⟩

set_option maxHeartbeats 4000000 in
theorem state_any {w : World} {a1 a2 : Option Addr} {n1 c1 n2 c2 : Nat} {t : Ste} (na ns : Nat) (hna : na ≤ 8) (_hns : ns ≤ 500) (A : NumsArg w a1 n1 c1 t.1) (N : NumsArg w a2 n2 c2 t.2) :
    Calls Tryz.prog 82 #[.agg #[.slice a1 n1 c1, .slice a2 n2 c2], .int .i64 ns, .int .i64 na] w fun e w' => e = .returned (.bool (steB na ns t)) ∧ Below w.heap.size w w' := by
  have hB := (Below.refl w.heap.size w).alloc (Nat.le_refl _) (.cells #[.slice a1 n1 c1, .slice a2 n2 c2] 87)
  have hw := Whole.new w 87 #[.slice a1 n1 c1, .slice a2 n2 c2]
  have HRs := Lib.hid (Rising_any (A.arg.below hB))
  have HA := Lib.hid A
  have HN := Lib.hid N
  have f1 : n1 ≤ 17592186044416 := A.few
  have f2 : n2 ≤ 17592186044416 := N.few
  have HBB := Lib.hid hB
  have HW := Lib.hid hw
  clear A N hB hw
  by_cases hl : n2 = na
  · have HL : Hid (t.2.length = na) := Lib.hid (by have := HN.out.arg.len; omega)
    subst hl
    have hq : ((n2 : Int) != n2) = false := by simp
    cases hr : risAll t.1
    · have HV := Lib.hid (ste_acc (na := n2) (ns := ns) (accB_ris (next := t.2) hr))
      rw [hr] at HRs
      clear hr
      go_enter Tryz.func82, Tryz.ntmps82
      go_wp2_with fail
      refine HRs.out.mono ?_
      rintro e w1 ⟨rfl, hb1⟩
      go_wp2
      go_ret
      exact ⟨by rw [HV.out]; rfl, HBB.out.trans (hb1.mono HBB.out.size)⟩
    · have HRis := Lib.hid hr
      rw [hr] at HRs
      clear hr
      go_enter Tryz.func82, Tryz.ntmps82
      go_wp2_with fail
      refine HRs.out.mono ?_
      rintro e w1 ⟨rfl, hb1⟩
      have x1 := HW.out.below hb1 HW.out.lt
      have k0 := x1.cell 0
      have k1 := x1.cell 1
      simp only [List.getElem?_toArray, List.getElem?_cons_succ, List.getElem?_cons_zero] at k0 k1
      have HB1 := Lib.hid (HBB.out.trans (hb1.mono HBB.out.size))
      clear hb1 x1
      go_wp2
      go_loop [8, 27] (fun _ i => ∃ j : Nat, j ≤ n2 ∧ i = .int .i64 j ∧ Hid (∀ x, x < j → okNext ns (t.2.getD x 0) = true)) (fun _ i => n2 - (intOf i).toNat)
      case atStart => exact ⟨0, Nat.zero_le _, rfl, Lib.hid fun x hx => by omega⟩
      case round =>
        obtain ⟨j, hj, rfl, hg⟩ := hrel
        by_cases hlt : j < n2
        · obtain ⟨bl, ol, rfl, d1⟩ := (HN.out.arg.below HB1.out).cells j (by have := HL.out; omega)
          obtain ⟨x, HX⟩ : ∃ x, Hid (t.2.getD j 0 = x) := ⟨_, Lib.hid rfl⟩
          rw [HX.out] at d1
          cases hok : okNext ns x
          · have HV := Lib.hid (ste_next (na := n2) (t := t) (nextB_out (na := n2) j (by have := HL.out; omega) (by rw [HX.out]; exact hok)))
            have hno : x < -1 ∨ (ns : Int) ≤ x := by
              rw [Bool.eq_false_iff, Ne, okNext_iff] at hok
              omega
            clear hok
            by_cases h : x < -1
            · clear hno
              go_wp2
              go_ret
              exact ⟨by rw [HV.out]; rfl, HB1.out⟩
            · have h2 : (ns : Int) ≤ x := by omega
              clear hno
              go_wp2
              go_ret
              exact ⟨by rw [HV.out]; rfl, HB1.out⟩
          · have HG : Hid (∀ z, z < j + 1 → okNext ns (t.2.getD z 0) = true) := Lib.hid fun z hz => by
              by_cases e : z = j
              · rw [e, HX.out]; exact hok
              · exact hg.out z (by omega)
            have hyes := (okNext_iff _ _).1 hok
            have hx0 : ¬ x < -1 := by omega
            have hx1 : ¬ (ns : Int) ≤ x := by omega
            clear hok hyes
            go_wp2
            go_round
            case rel => exact ⟨j + 1, by omega, by go_num, HG⟩
            case measure => simp [intOf]; omega
        · have HNx : Hid (nextB n2 ns t.2 = true) := Lib.hid ((nextB_iff _ _ _).2 ⟨HL.out, fun z hz => hg.out z (by have := HL.out; omega)⟩)
          go_wp2
          go_loopw [10, 12, 42] (fun _ _ i wr => ∃ y : Nat, y ≤ n1 ∧ i = .int .i64 y ∧ Hid (∀ z, z < y → okSet t.2 (t.1.getD z 0) = true) ∧ Below w1.heap.size w1 wr) (fun _ _ i _ => n1 - (intOf i).toNat)
          case atStart => exact ⟨0, Nat.zero_le _, rfl, Lib.hid fun x hx => by omega, Below.refl _ _⟩
          case round =>
            obtain ⟨w0, hw0⟩ : ∃ z, z = wr := ⟨_, rfl⟩
            subst hw0
            obtain ⟨y, hy, rfl, hgy, hb⟩ := hrel
            have HBw := Lib.hid (HB1.out.trans (hb.mono HB1.out.size))
            by_cases hly : y < n1
            · obtain ⟨bl, ol, rfl, d1⟩ := (HA.out.arg.below HBw.out).cells y (by have := HA.out.arg.len; omega)
              have hrx := HA.out.rng y (by have := HA.out.arg.len; omega)
              obtain ⟨x, HX⟩ : ∃ x, Hid (t.1.getD y 0 = x) := ⟨_, Lib.hid rfl⟩
              rw [HX.out] at d1 hrx
              have HSet := Lib.hid (Set_any n2 x w0 (by omega))
              cases hs : setB n2 x
              · have HV := Lib.hid (ste_acc (na := n2) (ns := ns) (t := t) (accB_bad (i := y) (by have := HA.out.arg.len; omega) (.inl (by rw [HX.out]; exact okSet_set HL.out hrx.2 hs))))
                rw [hs] at HSet
                clear hs
                go_wp2_with fail
                refine HSet.out.mono ?_
                rintro e w2 ⟨rfl, rfl⟩
                go_wp2
                go_ret
                exact ⟨by rw [HV.out]; rfl, HBw.out⟩
              · obtain ⟨X, hX1, hX⟩ := set_nat hs
                rw [hs] at HSet
                subst hX1
                have hX8 : X < 256 := Nat.lt_of_lt_of_le hX (show 2 ^ n2 ≤ 2 ^ 8 from Nat.pow_le_pow_right (by decide) (by omega))
                have HO := Lib.hid (okSet_of hna HL.out hX)
                have HLs := Lib.hid (RList_any (w := w0) n2 X hna hX8)
                clear hs hX hrx
                go_wp2_with fail
                refine HSet.out.mono ?_
                rintro e w2 ⟨rfl, rfl⟩
                go_wp2_with fail
                refine HLs.out.mono ?_
                rintro e w2 ⟨v, rfl, hown, hb2⟩
                have hbl := bitsL_len n2 X
                obtain ⟨la, lc, rfl, hLA⟩ := nats_arg hown (by omega)
                obtain ⟨ln, HLn⟩ : ∃ z, Hid ((bitsL n2 X).length = z) := ⟨_, Lib.hid rfl⟩
                rw [HLn.out] at hLA hbl
                have HLA := Lib.hid hLA
                rw [HLn.out]
                have K1 := ((hb.trans (hb2.mono hb.size)).cell (lt_of_cell k1)).trans k1
                have K0 := ((hb.trans (hb2.mono hb.size)).cell (lt_of_cell k0)).trans k0
                have HBy := Lib.hid (hb.trans (hb2.mono hb.size))
                have HBz := Lib.hid (HBw.out.trans (hb2.mono HBw.out.size))
                clear hown hLA hb2
                go_wp2
                go_loop [12, 54] (fun _ i => ∃ p : Nat, p ≤ ln ∧ i = .int .i64 p ∧ Hid (∀ q, q < p → leadP t.2 ((bitsL n2 X).getD q 0) = true)) (fun _ i => ln - (intOf i).toNat)
                case atStart => exact ⟨0, Nat.zero_le _, rfl, Lib.hid fun x hx => by omega⟩
                case round =>
                  obtain ⟨p, hp, rfl, hgp⟩ := hrel
                  by_cases hlp : p < ln
                  · obtain ⟨bb, ob, rfl, e1⟩ := HLA.out.cells p (by rw [natsI_length]; have := HLn.out; omega)
                    obtain ⟨A, HAq⟩ : ∃ z, Hid ((bitsL n2 X).getD p 0 = z) := ⟨_, Lib.hid rfl⟩
                    have hmem : A ∈ bitsL n2 X := by
                      rw [← HAq.out, List.getD_eq_getElem?_getD, List.getElem?_eq_getElem (by have := HLn.out; omega)]
                      exact List.getElem_mem _
                    have hA2 : A < n2 := bitsL_lt hmem
                    rw [natsI_at (by have := HLn.out; omega), HAq.out] at e1
                    obtain ⟨bn, on, rfl, e2⟩ := (HN.out.arg.below HBz.out).cells A (by have := HL.out; omega)
                    have hok := ((nextB_iff _ _ _).1 HNx.out).2 A (by have := HL.out; omega)
                    obtain ⟨g, HGv⟩ : ∃ z, Hid (t.2.getD A 0 = z) := ⟨_, Lib.hid rfl⟩
                    rw [HGv.out] at e2 hok
                    have hok2 := (okNext_iff _ _).1 hok
                    have hA0 : (0 : Int) ≤ (A : Int) := by omega
                    have hA3 : (A : Int) < n2 := by omega
                    by_cases hg0 : g < 0
                    · have HV : Hid (steB n2 ns t = false) := Lib.hid (ste_acc (accB_bad (i := y) (by have := HA.out.arg.len; omega) (.inl (by
                        rw [HX.out, Bool.eq_false_iff, Ne, HO.out]
                        intro h
                        have := h A hmem
                        unfold leadP at this
                        rw [HGv.out, decide_eq_false (p := g ≠ -1) (by omega), Bool.and_false] at this
                        cases this))))
                      clear hmem hok hok2
                      go_wp2
                      go_ret
                      exact ⟨by rw [HV.out]; rfl, HBz.out⟩
                    · have HG : Hid (∀ q, q < p + 1 → leadP t.2 ((bitsL n2 X).getD q 0) = true) := Lib.hid fun q hq => by
                        by_cases e : q = p
                        · rw [e, HAq.out]
                          unfold leadP
                          rw [HGv.out, decide_eq_true (p := g ≠ -1) (by omega), decide_eq_true (by have := HL.out; omega)]
                          rfl
                        · exact hgp.out q (by omega)
                      clear hmem hok hok2
                      go_wp2
                      go_round
                      case rel => exact ⟨p + 1, by omega, by go_num, HG⟩
                      case measure => simp [intOf]; omega
                  · have HG : Hid (∀ z, z < y + 1 → okSet t.2 (t.1.getD z 0) = true) := Lib.hid fun z hz => by
                      by_cases e : z = y
                      · rw [e, HX.out, HO.out]
                        intro a ha
                        obtain ⟨q, hq, rfl⟩ := List.mem_iff_getElem.1 ha
                        have := hgp.out q (by have := HLn.out; omega)
                        rwa [List.getD_eq_getElem?_getD, List.getElem?_eq_getElem hq] at this
                      · exact hgy.out z (by omega)
                    go_wp2
                    go_roundw
                    case rel => exact ⟨y + 1, by omega, by go_num, HG, HBy.out⟩
                    case measure => simp [intOf]; omega
            · have HV : Hid (steB n2 ns t = true) := Lib.hid (by
                unfold steB
                rw [HNx.out, (accB_iff t.1 t.2).2 fun i hi => ⟨hgy.out i (by have := HA.out.arg.len; omega), (risAll_iff _).1 HRis.out i hi⟩]
                rfl)
              go_wp2
              go_ret
              exact ⟨by rw [HV.out]; rfl, HBw.out⟩
  · have hq : ((n2 : Int) != na) = true := by rw [bne_iff_ne]; omega
    have HV : Hid (steB na ns t = false) := Lib.hid (ste_next (nextB_len (by have := HN.out.arg.len; omega)))
    clear hl
    go_enter Tryz.func82, Tryz.ntmps82
    go_wp2
    go_ret
    exact ⟨by rw [HV.out]; rfl, HBB.out⟩
end Go.Proofs.YtohljainhkdiiaaGreatDoor
/- The reference's Is and Same of specifications. -/
namespace Go.Proofs.YtohljainhkdiiaaGreatDoor
open Go.RowKit Pl

set_option maxHeartbeats 2000000 in
theorem RSIs_any {w : World} {a : Option Addr} {n c : Nat} {b : Option Addr} {k d : Nat} {s : Spc} (A : SpecArg w a n c b k d s) :
    Calls Tryz.prog 46 #[.agg #[.slice a n c, .slice b k d]] w fun e w' => e = .returned (.bool (spcB s)) ∧ Below w.heap.size w w' := by
  have hB := (Below.refl w.heap.size w).alloc (Nat.le_refl _) (.cells #[.slice a n c, .slice b k d] 40)
  have HC := Lib.hid (Is_arg (A.acts.below hB))
  have HA := Lib.hid A
  have h1 : n ≤ 140737488355328 := A.abig
  have h2 : k ≤ 140737488355328 := A.big
  have HBB := Lib.hid hB
  clear A hB
  cases ha : actsB s.acts
  · have HV := Lib.hid (spcB_acts ha)
    rw [ha] at HC
    clear ha
    go_enter Tryz.func46, Tryz.ntmps46
    go_wp2_with fail
    refine HC.out.mono ?_
    rintro e w' ⟨rfl, rfl⟩
    go_wp2
    go_ret
    exact ⟨by rw [HV.out]; rfl, HBB.out⟩
  · rw [ha] at HC
    have HAC := Lib.hid ha
    have h8 : n ≤ 8 := by have := ((actsB_iff s.acts).1 ha).1; have := HA.out.acts.len; omega
    clear ha
    by_cases hk : 1 ≤ k ∧ k ≤ 500
    · obtain ⟨hk1, hk2⟩ := hk
      go_enter Tryz.func46, Tryz.ntmps46
      go_wp2_with fail
      refine HC.out.mono ?_
      rintro e w' ⟨rfl, rfl⟩
      go_wp2
      go_loopw [4, 24] (fun _ i wr => ∃ j : Nat, j ≤ k ∧ i = .int .i64 j ∧ Hid (∀ x, x < j → steB s.acts.length s.states.length (teAt s.states x) = true) ∧ Below (w.heap.size + 1) (w.alloc (.cells #[.slice a n c, .slice b k d] 40)) wr) (fun _ i _ => k - (intOf i).toNat)
      case atStart => exact ⟨0, Nat.zero_le _, rfl, Lib.hid fun x hx => by omega, Below.refl _ _⟩
      case round =>
        obtain ⟨j, hj, rfl, ht, hb⟩ := hrel
        have q0 : wr.cell? ⟨w.heap.size, 0, none⟩ = some (.slice a n c) := by rw [hb.cell (by simp)]; simp
        have q1 : wr.cell? ⟨w.heap.size, 1, none⟩ = some (.slice b k d) := by rw [hb.cell (by simp)]; simp
        have q2 : w.heap.size < wr.heap.size := lt_of_cell q0
        have HBr := Lib.hid hb
        have HBw := Lib.hid (HBB.out.trans (hb.mono (by omega)))
        clear hb
        by_cases hlt : j < k
        · obtain ⟨bb, off, rfl, a1, n1, c1, a2, n2, c2, d1, d2, hN1, hN2⟩ := (HA.out.rows.below HBw.out) j (by have := HA.out.len; omega)
          have hbl : Below wr.heap.size wr (wr.alloc (.cells #[.slice a1 n1 c1, .slice a2 n2 c2] 87)) := (Below.refl _ wr).alloc (Nat.le_refl _) _
          have HX := Lib.hid (state_any n k h8 hk2 (hN1.below hbl) (hN2.below hbl))
          have HBe := Lib.hid (HBr.out.alloc (Nat.le_trans (by simp) HBr.out.size) (.cells #[.slice a1 n1 c1, .slice a2 n2 c2] 87))
          have HBf := Lib.hid (HBw.out.alloc HBw.out.size (.cells #[.slice a1 n1 c1, .slice a2 n2 c2] 87))
          clear hN1 hN2 hbl
          cases hst : steB n k (teAt s.states j)
          · have HV := Lib.hid (spcB_ste (s := s) j (by have := HA.out.len; omega) (by rw [← HA.out.len, ← HA.out.acts.len]; exact hst))
            rw [hst] at HX
            clear hst
            go_wp2_with fail
            refine HX.out.mono ?_
            rintro e w' ⟨rfl, hb1⟩
            go_wp2
            go_ret
            exact ⟨by rw [HV.out]; rfl, HBf.out.trans (hb1.mono HBf.out.size)⟩
          · have HG : Hid (∀ x, x < j + 1 → steB s.acts.length s.states.length (teAt s.states x) = true) := Lib.hid fun x hx => by
              by_cases e : x = j
              · rw [e, ← HA.out.len, ← HA.out.acts.len]
                exact hst
              · exact ht.out x (by omega)
            rw [hst] at HX
            clear hst
            go_wp2_with fail
            refine HX.out.mono ?_
            rintro e w' ⟨rfl, hb1⟩
            have HBn := Lib.hid (HBe.out.trans (hb1.mono (Nat.le_trans (by simp) HBe.out.size)))
            clear hb1
            go_wp2
            go_roundw
            case rel => exact ⟨j + 1, by omega, by go_num, HG, HBn.out⟩
            case measure => simp [intOf]; omega
        · have HV := Lib.hid ((spcB_iff s).2 ⟨HAC.out, by have := HA.out.len; omega, by have := HA.out.len; omega, fun i hi => ht.out i (by have := HA.out.len; omega)⟩)
          go_wp2
          go_ret
          exact ⟨by rw [HV.out]; rfl, HBw.out⟩
    · have HV : Hid (spcB s = false) := Lib.hid (by
        by_cases h : k < 1
        · exact spcB_few (by have := HA.out.len; omega)
        · exact spcB_many (by have := HA.out.len; omega))
      by_cases hk1 : k < 1
      · go_enter Tryz.func46, Tryz.ntmps46
        go_wp2_with fail
        refine HC.out.mono ?_
        rintro e w' ⟨rfl, rfl⟩
        go_wp2
        go_ret
        exact ⟨by rw [HV.out]; rfl, HBB.out⟩
      · have hk2 : 500 < k := by omega
        go_enter Tryz.func46, Tryz.ntmps46
        go_wp2_with fail
        refine HC.out.mono ?_
        rintro e w' ⟨rfl, rfl⟩
        go_wp2
        go_ret
        exact ⟨by rw [HV.out]; rfl, HBB.out⟩
end Go.Proofs.YtohljainhkdiiaaGreatDoor
