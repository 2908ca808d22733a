/- SystemSteps: Offer and After answer what the definitions ask. -/
import Derived.Test.YtlnncklanabbdaaGreatDoorVend
import Derived.Test.YtlnncklanabbdaaGreatDoorCopyA
import Derived.Test.YtlnncklanabbdaaGreatDoorAfter
import Derived.OpenShut
namespace Go.Proofs.YtlnncklanabbdaaGreatDoor
open Go.RowKit Pl

theorem RowInts.arg {w : World} {base : Nat} {v : Value} {xs : List Int} (h : w.ownsRow base 3 1 v xs.length (xs.map (Value.int .i64))) (hl : xs.length ≤ 140737488355328) : ∃ a c, v = .slice a xs.length c ∧ IntArg w a xs.length c xs := by
  rcases h.2 with ⟨rfl, h0⟩ | ⟨g, cap, cur, rfl, hg, hh, hc, hm, hz, ht⟩
  · exact ⟨none, 0, by rw [h0], ⟨fun _ => rfl, rfl, by omega, by omega, fun j hj => by omega⟩⟩
  · refine ⟨some ⟨g, 0, none⟩, cap, rfl, ⟨(fun h => by cases h), rfl, hc, by omega, fun j hj => ⟨g, 0, rfl, ?_⟩⟩⟩
    rw [Nat.zero_add, World.ownsRow.cellAt h j (by omega), List.getElem?_map, List.getD_eq_getElem?_getD, List.getElem?_eq_getElem hj]
    rfl
theorem ints_src {w : World} {a : Option Addr} {xs : List Int} (h : IntsIn w a xs) : SrcAt w a (xs.map (Value.int .i64)) := fun j u hu => by
  rw [List.getElem?_map, Option.map_eq_some_iff] at hu
  obtain ⟨x, hx, rfl⟩ := hu
  have hj := (List.getElem?_eq_some_iff.1 hx).1
  obtain ⟨b, off, rfl, hc⟩ := h j hj
  refine ⟨_, rfl, ?_⟩
  rw [add_plainly, hc, List.getD_eq_getElem?_getD, hx]
  rfl
theorem IntArg.nils {w : World} {a : Option Addr} {n c : Nat} {xs : List Int} (A : IntArg w a n c xs) : a = none → n = 0 ∧ c = 0 := fun h => by
  have h1 := A.nil h
  have := A.cap
  omega
theorem none_ints (w : World) : IntArg w none 0 0 (zs []) := ⟨fun _ => rfl, rfl, Nat.le_refl _, by omega, fun j hj => by simp [zs] at hj⟩
theorem afterL_len {m : Syst} (h : sysB m = true) (word : List Int) : (afterL m.states word).length ≤ 5000 := by
  have hs := (sysB_iff m).1 h
  have := (afterL_facts (ss := m.states) hs.2.1 word word.length (Nat.le_refl _)).2.1
  rw [List.take_length] at this
  omega

set_option maxRecDepth 100000 in
set_option maxHeartbeats 32000000 in
theorem SystemSteps_any {w : World} (x : Int) (E : Env w) {a : Option Addr} {n c : Nat} {b : Option Addr} {k d : Nat} {m : Syst} (A : SysArg w a n c b k d m) (hxw : (Lit.int .i64 x).wf = true)
    {wa : Option Addr} {wn wc : Nat} {word : List Int} (L : IntArg w wa wn wc word) (hr : wn * 8 ≤ 140737488351232) (_hw : ∀ z ∈ word, (Lit.int .i64 z).wf = true) :
    Calls Tryz.prog 6 #[.agg #[.slice a n c, .slice b k d], .int .i64 x, .slice wa wn wc] w fun e w' => e = .returned (.bool true) ∧ Below w.heap.size w w' := by
  have hxb : -9223372036854775808 ≤ x ∧ x ≤ 9223372036854775807 := by
    exact Go.bounds_i64 hxw
  obtain ⟨iN, hiN, hN0, hN1, hN2⟩ := info_parts infoNum
  have hB := (Below.refl w.heap.size w).alloc (Nat.le_refl _) (.cells #[.slice a n c, .slice b k d] 25)
  have hX := Whole.new w 25 #[.slice a n c, .slice b k d]
  obtain ⟨w0, hw0⟩ : ∃ w0, w.alloc (.cells #[.slice a n c, .slice b k d] 25) = w0 := ⟨_, rfl⟩
  rw [hw0] at hB hX
  have HW0 := Lib.hid hw0
  have hA := A.below hB
  have HF := Few_any 2000 (by decide) hA
  obtain ⟨w1, hw1⟩ : ∃ w1, w0.alloc (.cells #[.slice a n c, .slice b k d] 25) = w1 := ⟨_, rfl⟩
  rw [hw1] at HF
  have hb1 : Below w0.heap.size w0 w1 := by rw [← hw1]; exact (Below.refl _ w0).alloc (Nat.le_refl _) _
  have HF := Lib.hid HF
  have HB1 := Lib.hid (hB.trans (hb1.mono hB.size))
  have p0 : w0.cell? ⟨w.heap.size, 0, none⟩ = some (.slice a n c) := hX.cell 0
  have p1 : w0.cell? ⟨w.heap.size, 1, none⟩ = some (.slice b k d) := hX.cell 1
  have hX1 := hX.below hb1 hX.lt
  have q0 := up_cell hb1 p0
  have q1 := up_cell hb1 p1
  have HX1 := Lib.hid hX1
  have HA1 := Lib.hid (hA.below hb1)
  have HE1 := Lib.hid (E.below HB1.out)
  have HL1 := Lib.hid (L.below HB1.out)
  have hwn : wn ≤ 17592186044416 := by omega
  have hkb : k ≤ 140737488355328 := A.big
  have hnb : n ≤ 140737488355328 := A.abig
  clear hB hA hX hX1 hw0 hw1 hb1 A E L
  cases hf : fewB m 2000
  · rw [hf] at HF
    go_enter Tryz.func6, Tryz.ntmps6
    go_wp2_with fail
    rw [HW0.out]
    refine HF.out.mono ?_
    rintro e w' ⟨rfl, rfl⟩
    go_wp2_with fail
    refine (awake_any HE1.out).mono ?_
    rintro e w3 ⟨rfl, hb3⟩
    have HB3 := Lib.hid (HB1.out.trans (hb3.mono HB1.out.size))
    clear hb3
    go_wp2
    go_ret
    exact ⟨rfl, HB3.out⟩
  · rw [hf] at HF
    have HFE := Lib.hid ((fewB_iff m 2000).1 hf)
    clear hf
    by_cases hskip : 200 < wn ∧ wn ≤ 10000 ∧ 20 < k
    · obtain ⟨s1, s2, s3⟩ := hskip
      go_enter Tryz.func6, Tryz.ntmps6
      go_wp2_with fail
      rw [HW0.out]
      refine HF.out.mono ?_
      rintro e w' ⟨rfl, rfl⟩
      go_wp2_with fail
      refine (awake_any HE1.out).mono ?_
      rintro e w3 ⟨rfl, hb3⟩
      have HB3 := Lib.hid (HB1.out.trans (hb3.mono HB1.out.size))
      clear hb3
      go_wp2
      go_ret
      exact ⟨rfl, HB3.out⟩
    · have hq : m.acts.length + m.states.length + total m.states ≤ 1000000 := by have := HFE.out; omega
      have HQ := Lib.hid hq
      have hI := RIs_any HA1.out (by omega)
      have HKm := Lib.hid HA1.out.len
      have HNm := Lib.hid HA1.out.acts.len
      have h3 : wn ≤ 200 ∨ (200 < wn ∧ 10000 < wn) ∨ (200 < wn ∧ wn ≤ 10000 ∧ k ≤ 20) := by omega
      clear hskip
      cases hv : sysB m
      · have HI := hI
        rw [hv] at HI
        have HI := Lib.hid HI
        have HOv : Hid (offerV m x = 0 ∧ stC m x = 20) := Lib.hid (by
          have : stC m x = 20 := by unfold stC; rw [hv]; rfl
          refine ⟨?_, this⟩
          unfold offerV
          rw [this]
          rfl)
        have HAv : Hid (aftC m word = 20 ∧ aftL m word = []) := Lib.hid (by unfold aftC aftL; rw [hv]; exact ⟨rfl, rfl⟩)
        clear hv hI hq
        rcases h3 with s1 | ⟨s1, s2⟩ | ⟨s1, s2, s3⟩
        all_goals
          go_enter Tryz.func6, Tryz.ntmps6
          go_wp2_with fail
          rw [HW0.out]
          refine HF.out.mono ?_
          rintro e w' ⟨rfl, rfl⟩
          go_wp2_with fail
          refine HI.out.mono ?_
          rintro e x2 ⟨rfl, hb⟩
          have HB2 := Lib.hid (HB1.out.trans (hb.mono HB1.out.size))
          have HA2 := Lib.hid (HA1.out.below hb)
          have HE2 := Lib.hid (HE1.out.below hb)
          have HL2 := Lib.hid (HL1.out.below hb)
          have c20 := up_cell hb q0
          have c21 := up_cell hb q1
          clear hb
          have HC := Lib.hid (CopyA_any HA2.out HQ.out)
          go_wp2_with fail
          refine HC.out.mono ?_
          rintro e x5 ⟨a5, e5, b5, d5, rfl, hA5, hb⟩
          have HB3 := Lib.hid (HB2.out.trans (hb.mono HB2.out.size))
          have HA3 := Lib.hid (HA2.out.below hb)
          have HE3 := Lib.hid (HE2.out.below hb)
          have HL3 := Lib.hid (HL2.out.below hb)
          have c30 := up_cell hb c20
          have c31 := up_cell hb c21
          obtain ⟨f0, f1, f2, hEr⟩ := HE3.out.errs
          have HO := Offer_any x (by omega) (by omega) hEr hA5
          rw [HOv.out.1, HOv.out.2] at HO
          have HO := Lib.hid HO
          clear hb HC hEr hA5
          go_wp2_with fail
          refine HO.out.mono ?_
          rintro e x6 ⟨rfl, hb⟩
          have HB4 := Lib.hid (HB3.out.trans (hb.mono HB3.out.size))
          have HA4 := Lib.hid (HA3.out.below hb)
          have HE4 := Lib.hid (HE3.out.below hb)
          have HL4 := Lib.hid (HL3.out.below hb)
          have c40 := up_cell hb c30
          have c41 := up_cell hb c31
          clear hb HO
          have HC := Lib.hid (CopyA_any HA4.out HQ.out)
          go_wp2_with fail
          refine HC.out.mono ?_
          rintro e x7 ⟨a7, e7, b7, d7, rfl, hA7, hb⟩
          have HB5 := Lib.hid (HB4.out.trans (hb.mono HB4.out.size))
          have HA5 := Lib.hid (HA4.out.below hb)
          have HE5 := Lib.hid (HE4.out.below hb)
          have HL5 := Lib.hid (HL4.out.below hb)
          have c50 := up_cell hb c40
          have c51 := up_cell hb c41
          have HAc7 := Lib.hid hA7
          have HNil := Lib.hid HL5.out.nils
          have HLn : Hid ((word.map (Value.int .i64)).length = wn * 1) := Lib.hid (by have := HL5.out.len; simp; omega)
          have HSrc := Lib.hid (ints_src HL5.out.cells)
          clear hb HC hA7
          go_wp2_with (at_builtin; (refine wpList_append_sz rfl (.const (.slice none 0 0)) (.tmp 76) 39 rfl x7.heap.size 3 iN (.int .i64 0) 1 8 Tryz.underlying39 hiN hN0 hN1 hN2 rfl (by decide) (.slice none 0 0) rfl 0 [] (World.ownsRow_nil _ _ _ _) wa wn wc rfl (word.map (Value.int .i64)) HNil.out HLn.out HSrc.out (fun u hu => by obtain ⟨z, _, rfl⟩ := List.mem_map.1 hu; rfl) (by unfold maxLen; omega) (by omega) (Nat.le_refl _) ?_); intro v8 x8 hv8 hg8 hat8; refine Hid.out ?_)
          refine Lib.hid ?_
          simp only [Nat.zero_add, List.nil_append] at hv8
          have hb : Below x7.heap.size x7 x8 := (Below.refl _ x7).grown hg8 (Nat.le_refl _) (fun k hk => by cases hk)
          have hwl : wn = word.length := HL5.out.len
          rw [hwl] at hv8
          obtain ⟨a8, c8, rfl, hI8⟩ := RowInts.arg hv8 (by omega)
          rw [← hwl]
          rw [← hwl] at hI8
          have HB6 := Lib.hid (HB5.out.trans (hb.mono HB5.out.size))
          have HA6 := Lib.hid (HA5.out.below hb)
          have HE6 := Lib.hid (HE5.out.below hb)
          have HL6 := Lib.hid (HL5.out.below hb)
          have c60 := up_cell hb c50
          have c61 := up_cell hb c51
          have HAc8 := Lib.hid (HAc7.out.below hb)
          obtain ⟨f0, f1, f2, hEr⟩ := HE6.out.errs
          have HO := After_any hEr HAc8.out hI8
          rw [HAv.out.1, HAv.out.2] at HO
          have HO := Lib.hid HO
          clear hb hEr hv8 hg8 hat8 hI8 hwl
          go_wp2_with fail
          refine HO.out.mono ?_
          rintro e x9 ⟨v9, rfl, hv9, hb⟩
          obtain ⟨a9, c9, rfl, hI9⟩ := hv9.arg (by simp)
          have HB7 := Lib.hid (HB6.out.trans (hb.mono HB6.out.size))
          have HA7 := Lib.hid (HA6.out.below hb)
          have HE7 := Lib.hid (HE6.out.below hb)
          have HL7 := Lib.hid (HL6.out.below hb)
          have c70 := up_cell hb c60
          have c71 := up_cell hb c61
          have HS := SameInts_any a9 _ c9 _ none 0 0 _ x9 hI9.len (none_ints x9).len (by simp) (by omega) hI9.cells (none_ints x9).cells
          rw [decide_eq_true rfl] at HS
          have HS := Lib.hid HS
          clear hb HO hv9 hI9
          go_wp2_with fail
          refine HS.out.mono ?_
          rintro e w' ⟨rfl, rfl⟩
          go_wp2_with fail
          refine (awake_any HE7.out).mono ?_
          rintro e xa ⟨rfl, hb⟩
          have HBz := Lib.hid (HB7.out.trans (hb.mono HB7.out.size))
          clear hb
          go_wp2
          go_ret
          exact ⟨rfl, HBz.out⟩
      · have HI := hI
        rw [hv] at HI
        have HI := Lib.hid HI
        have HV := Lib.hid hv
        cases hwd : wordB m.acts.length word
        · have HAv : Hid (aftC m word = 1 ∧ aftL m word = []) := Lib.hid (by unfold aftC aftL; rw [hv, hwd]; exact ⟨rfl, rfl⟩)
          rw [← HNm.out] at hwd
          have HWd := Lib.hid hwd
          clear hwd
          by_cases hx0 : x < 0
          · have HOv : Hid (offerV m x = 0 ∧ stC m x = 1) := Lib.hid (by
              have : stC m x = 1 := by unfold stC; rw [hv, if_pos rfl, if_neg (by omega)]
              refine ⟨?_, this⟩
              unfold offerV
              rw [this]
              rfl)
            have hx2 : decide ((0 : Int) ≤ x) = false := decide_eq_false (by omega)
            clear hv hI hq
            rcases h3 with s1 | ⟨s1, s2⟩ | ⟨s1, s2, s3⟩
            all_goals
              go_enter Tryz.func6, Tryz.ntmps6
              go_wp2_with fail
              rw [HW0.out]
              refine HF.out.mono ?_
              rintro e w' ⟨rfl, rfl⟩
              go_wp2_with fail
              refine HI.out.mono ?_
              rintro e x2 ⟨rfl, hb⟩
              have HB2 := Lib.hid (HB1.out.trans (hb.mono HB1.out.size))
              have HA2 := Lib.hid (HA1.out.below hb)
              have HE2 := Lib.hid (HE1.out.below hb)
              have HL2 := Lib.hid (HL1.out.below hb)
              have c20 := up_cell hb q0
              have c21 := up_cell hb q1
              clear hb
              have HC := RWord_any n (by omega) HL2.out
              rw [HWd.out] at HC
              have HC := Lib.hid HC
              go_wp2_with fail
              refine HC.out.mono ?_
              rintro e w' ⟨rfl, rfl⟩
              clear HC
              have HC := Lib.hid (CopyA_any HA2.out HQ.out)
              go_wp2_with fail
              refine HC.out.mono ?_
              rintro e x5 ⟨a5, e5, b5, d5, rfl, hA5, hb⟩
              have HB3 := Lib.hid (HB2.out.trans (hb.mono HB2.out.size))
              have HA3 := Lib.hid (HA2.out.below hb)
              have HE3 := Lib.hid (HE2.out.below hb)
              have HL3 := Lib.hid (HL2.out.below hb)
              have c30 := up_cell hb c20
              have c31 := up_cell hb c21
              obtain ⟨f0, f1, f2, hEr⟩ := HE3.out.errs
              have HO := Offer_any x (by omega) (by omega) hEr hA5
              rw [HOv.out.1, HOv.out.2] at HO
              have HO := Lib.hid HO
              clear hb HC hEr hA5
              go_wp2_with fail
              refine HO.out.mono ?_
              rintro e x6 ⟨rfl, hb⟩
              have HB4 := Lib.hid (HB3.out.trans (hb.mono HB3.out.size))
              have HA4 := Lib.hid (HA3.out.below hb)
              have HE4 := Lib.hid (HE3.out.below hb)
              have HL4 := Lib.hid (HL3.out.below hb)
              have c40 := up_cell hb c30
              have c41 := up_cell hb c31
              clear hb HO
              have HC := Lib.hid (CopyA_any HA4.out HQ.out)
              go_wp2_with fail
              refine HC.out.mono ?_
              rintro e x7 ⟨a7, e7, b7, d7, rfl, hA7, hb⟩
              have HB5 := Lib.hid (HB4.out.trans (hb.mono HB4.out.size))
              have HA5 := Lib.hid (HA4.out.below hb)
              have HE5 := Lib.hid (HE4.out.below hb)
              have HL5 := Lib.hid (HL4.out.below hb)
              have c50 := up_cell hb c40
              have c51 := up_cell hb c41
              have HAc7 := Lib.hid hA7
              have HNil := Lib.hid HL5.out.nils
              have HLn : Hid ((word.map (Value.int .i64)).length = wn * 1) := Lib.hid (by have := HL5.out.len; simp; omega)
              have HSrc := Lib.hid (ints_src HL5.out.cells)
              clear hb HC hA7
              go_wp2_with (at_builtin; (refine wpList_append_sz rfl (.const (.slice none 0 0)) (.tmp 76) 39 rfl x7.heap.size 3 iN (.int .i64 0) 1 8 Tryz.underlying39 hiN hN0 hN1 hN2 rfl (by decide) (.slice none 0 0) rfl 0 [] (World.ownsRow_nil _ _ _ _) wa wn wc rfl (word.map (Value.int .i64)) HNil.out HLn.out HSrc.out (fun u hu => by obtain ⟨z, _, rfl⟩ := List.mem_map.1 hu; rfl) (by unfold maxLen; omega) (by omega) (Nat.le_refl _) ?_); intro v8 x8 hv8 hg8 hat8; refine Hid.out ?_)
              refine Lib.hid ?_
              simp only [Nat.zero_add, List.nil_append] at hv8
              have hb : Below x7.heap.size x7 x8 := (Below.refl _ x7).grown hg8 (Nat.le_refl _) (fun k hk => by cases hk)
              have hwl : wn = word.length := HL5.out.len
              rw [hwl] at hv8
              obtain ⟨a8, c8, rfl, hI8⟩ := RowInts.arg hv8 (by omega)
              rw [← hwl]
              rw [← hwl] at hI8
              have HB6 := Lib.hid (HB5.out.trans (hb.mono HB5.out.size))
              have HA6 := Lib.hid (HA5.out.below hb)
              have HE6 := Lib.hid (HE5.out.below hb)
              have HL6 := Lib.hid (HL5.out.below hb)
              have c60 := up_cell hb c50
              have c61 := up_cell hb c51
              have HAc8 := Lib.hid (HAc7.out.below hb)
              obtain ⟨f0, f1, f2, hEr⟩ := HE6.out.errs
              have HO := After_any hEr HAc8.out hI8
              rw [HAv.out.1, HAv.out.2] at HO
              have HO := Lib.hid HO
              clear hb hEr hv8 hg8 hat8 hI8 hwl
              go_wp2_with fail
              refine HO.out.mono ?_
              rintro e x9 ⟨v9, rfl, hv9, hb⟩
              obtain ⟨a9, c9, rfl, hI9⟩ := hv9.arg (by simp)
              have HB7 := Lib.hid (HB6.out.trans (hb.mono HB6.out.size))
              have HA7 := Lib.hid (HA6.out.below hb)
              have HE7 := Lib.hid (HE6.out.below hb)
              have HL7 := Lib.hid (HL6.out.below hb)
              have c70 := up_cell hb c60
              have c71 := up_cell hb c61
              have HS := SameInts_any a9 _ c9 _ none 0 0 _ x9 hI9.len (none_ints x9).len (by simp) (by omega) hI9.cells (none_ints x9).cells
              rw [decide_eq_true rfl] at HS
              have HS := Lib.hid HS
              clear hb HO hv9 hI9
              go_wp2_with fail
              refine HS.out.mono ?_
              rintro e w' ⟨rfl, rfl⟩
              go_wp2_with fail
              refine (awake_any HE7.out).mono ?_
              rintro e xa ⟨rfl, hb⟩
              have HBz := Lib.hid (HB7.out.trans (hb.mono HB7.out.size))
              clear hb
              go_wp2
              go_ret
              exact ⟨rfl, HBz.out⟩
          · by_cases hx1 : x < (k : Int)
            · obtain ⟨xn, rfl⟩ := Int.eq_ofNat_of_zero_le (show 0 ≤ x by omega)
              have hxn : xn < m.states.length := by have := HKm.out; omega
              have HOv : Hid (offerV m xn = (offN (stAt m.states xn) : Nat) ∧ stC m xn = 0) := Lib.hid (by
                have : stC m xn = 0 := by unfold stC; rw [hv, if_pos rfl, if_pos (by omega)]
                refine ⟨?_, this⟩
                unfold offerV
                rw [if_pos this]
                simp)
              clear hv hI hq
              rcases h3 with s1 | ⟨s1, s2⟩ | ⟨s1, s2, s3⟩
              all_goals
                go_enter Tryz.func6, Tryz.ntmps6
                go_wp2_with fail
                rw [HW0.out]
                refine HF.out.mono ?_
                rintro e w' ⟨rfl, rfl⟩
                go_wp2_with fail
                refine HI.out.mono ?_
                rintro e x2 ⟨rfl, hb⟩
                have HB2 := Lib.hid (HB1.out.trans (hb.mono HB1.out.size))
                have HA2 := Lib.hid (HA1.out.below hb)
                have HE2 := Lib.hid (HE1.out.below hb)
                have HL2 := Lib.hid (HL1.out.below hb)
                have c20 := up_cell hb q0
                have c21 := up_cell hb q1
                clear hb
                have HC := Lib.hid (ROffer_any HA2.out HV.out xn hxn)
                go_wp2_with fail
                refine HC.out.mono ?_
                rintro e x3 ⟨rfl, hb⟩
                have HB3 := Lib.hid (HB2.out.trans (hb.mono HB2.out.size))
                have HA3 := Lib.hid (HA2.out.below hb)
                have HE3 := Lib.hid (HE2.out.below hb)
                have HL3 := Lib.hid (HL2.out.below hb)
                have c30 := up_cell hb c20
                have c31 := up_cell hb c21
                clear hb HC
                have HC := RWord_any n (by omega) HL3.out
                rw [HWd.out] at HC
                have HC := Lib.hid HC
                go_wp2_with fail
                refine HC.out.mono ?_
                rintro e w' ⟨rfl, rfl⟩
                clear HC
                have HC := Lib.hid (CopyA_any HA3.out HQ.out)
                go_wp2_with fail
                refine HC.out.mono ?_
                rintro e x5 ⟨a5, e5, b5, d5, rfl, hA5, hb⟩
                have HB4 := Lib.hid (HB3.out.trans (hb.mono HB3.out.size))
                have HA4 := Lib.hid (HA3.out.below hb)
                have HE4 := Lib.hid (HE3.out.below hb)
                have HL4 := Lib.hid (HL3.out.below hb)
                have c40 := up_cell hb c30
                have c41 := up_cell hb c31
                obtain ⟨f0, f1, f2, hEr⟩ := HE4.out.errs
                have HO := Offer_any xn (by omega) (by omega) hEr hA5
                rw [HOv.out.1, HOv.out.2] at HO
                have HO := Lib.hid HO
                clear hb HC hEr hA5
                go_wp2_with fail
                refine HO.out.mono ?_
                rintro e x6 ⟨rfl, hb⟩
                have HB5 := Lib.hid (HB4.out.trans (hb.mono HB4.out.size))
                have HA5 := Lib.hid (HA4.out.below hb)
                have HE5 := Lib.hid (HE4.out.below hb)
                have HL5 := Lib.hid (HL4.out.below hb)
                have c50 := up_cell hb c40
                have c51 := up_cell hb c41
                clear hb HO
                have HC := Lib.hid (CopyA_any HA5.out HQ.out)
                go_wp2_with fail
                refine HC.out.mono ?_
                rintro e x7 ⟨a7, e7, b7, d7, rfl, hA7, hb⟩
                have HB6 := Lib.hid (HB5.out.trans (hb.mono HB5.out.size))
                have HA6 := Lib.hid (HA5.out.below hb)
                have HE6 := Lib.hid (HE5.out.below hb)
                have HL6 := Lib.hid (HL5.out.below hb)
                have c60 := up_cell hb c50
                have c61 := up_cell hb c51
                have HAc7 := Lib.hid hA7
                have HNil := Lib.hid HL6.out.nils
                have HLn : Hid ((word.map (Value.int .i64)).length = wn * 1) := Lib.hid (by have := HL6.out.len; simp; omega)
                have HSrc := Lib.hid (ints_src HL6.out.cells)
                clear hb HC hA7
                go_wp2_with (at_builtin; (refine wpList_append_sz rfl (.const (.slice none 0 0)) (.tmp 76) 39 rfl x7.heap.size 3 iN (.int .i64 0) 1 8 Tryz.underlying39 hiN hN0 hN1 hN2 rfl (by decide) (.slice none 0 0) rfl 0 [] (World.ownsRow_nil _ _ _ _) wa wn wc rfl (word.map (Value.int .i64)) HNil.out HLn.out HSrc.out (fun u hu => by obtain ⟨z, _, rfl⟩ := List.mem_map.1 hu; rfl) (by unfold maxLen; omega) (by omega) (Nat.le_refl _) ?_); intro v8 x8 hv8 hg8 hat8; refine Hid.out ?_)
                refine Lib.hid ?_
                simp only [Nat.zero_add, List.nil_append] at hv8
                have hb : Below x7.heap.size x7 x8 := (Below.refl _ x7).grown hg8 (Nat.le_refl _) (fun k hk => by cases hk)
                have hwl : wn = word.length := HL6.out.len
                rw [hwl] at hv8
                obtain ⟨a8, c8, rfl, hI8⟩ := RowInts.arg hv8 (by omega)
                rw [← hwl]
                rw [← hwl] at hI8
                have HB7 := Lib.hid (HB6.out.trans (hb.mono HB6.out.size))
                have HA7 := Lib.hid (HA6.out.below hb)
                have HE7 := Lib.hid (HE6.out.below hb)
                have HL7 := Lib.hid (HL6.out.below hb)
                have c70 := up_cell hb c60
                have c71 := up_cell hb c61
                have HAc8 := Lib.hid (HAc7.out.below hb)
                obtain ⟨f0, f1, f2, hEr⟩ := HE7.out.errs
                have HO := After_any hEr HAc8.out hI8
                rw [HAv.out.1, HAv.out.2] at HO
                have HO := Lib.hid HO
                clear hb hEr hv8 hg8 hat8 hI8 hwl
                go_wp2_with fail
                refine HO.out.mono ?_
                rintro e x9 ⟨v9, rfl, hv9, hb⟩
                obtain ⟨a9, c9, rfl, hI9⟩ := hv9.arg (by simp)
                have HB8 := Lib.hid (HB7.out.trans (hb.mono HB7.out.size))
                have HA8 := Lib.hid (HA7.out.below hb)
                have HE8 := Lib.hid (HE7.out.below hb)
                have HL8 := Lib.hid (HL7.out.below hb)
                have c80 := up_cell hb c70
                have c81 := up_cell hb c71
                have HS := SameInts_any a9 _ c9 _ none 0 0 _ x9 hI9.len (none_ints x9).len (by simp) (by omega) hI9.cells (none_ints x9).cells
                rw [decide_eq_true rfl] at HS
                have HS := Lib.hid HS
                clear hb HO hv9 hI9
                go_wp2_with fail
                refine HS.out.mono ?_
                rintro e w' ⟨rfl, rfl⟩
                go_wp2_with fail
                refine (awake_any HE8.out).mono ?_
                rintro e xa ⟨rfl, hb⟩
                have HBz := Lib.hid (HB8.out.trans (hb.mono HB8.out.size))
                clear hb
                go_wp2
                go_ret
                exact ⟨rfl, HBz.out⟩
            · have HOv : Hid (offerV m x = 0 ∧ stC m x = 1) := Lib.hid (by
                have : stC m x = 1 := by unfold stC; rw [hv, if_pos rfl, if_neg (by have := HKm.out; omega)]
                refine ⟨?_, this⟩
                unfold offerV
                rw [this]
                rfl)
              have hx2 : decide (x < (k : Int)) = false := decide_eq_false hx1
              clear hv hI hq
              rcases h3 with s1 | ⟨s1, s2⟩ | ⟨s1, s2, s3⟩
              all_goals
                go_enter Tryz.func6, Tryz.ntmps6
                go_wp2_with fail
                rw [HW0.out]
                refine HF.out.mono ?_
                rintro e w' ⟨rfl, rfl⟩
                go_wp2_with fail
                refine HI.out.mono ?_
                rintro e x2 ⟨rfl, hb⟩
                have HB2 := Lib.hid (HB1.out.trans (hb.mono HB1.out.size))
                have HA2 := Lib.hid (HA1.out.below hb)
                have HE2 := Lib.hid (HE1.out.below hb)
                have HL2 := Lib.hid (HL1.out.below hb)
                have c20 := up_cell hb q0
                have c21 := up_cell hb q1
                clear hb
                have HC := RWord_any n (by omega) HL2.out
                rw [HWd.out] at HC
                have HC := Lib.hid HC
                go_wp2_with fail
                refine HC.out.mono ?_
                rintro e w' ⟨rfl, rfl⟩
                clear HC
                have HC := Lib.hid (CopyA_any HA2.out HQ.out)
                go_wp2_with fail
                refine HC.out.mono ?_
                rintro e x5 ⟨a5, e5, b5, d5, rfl, hA5, hb⟩
                have HB3 := Lib.hid (HB2.out.trans (hb.mono HB2.out.size))
                have HA3 := Lib.hid (HA2.out.below hb)
                have HE3 := Lib.hid (HE2.out.below hb)
                have HL3 := Lib.hid (HL2.out.below hb)
                have c30 := up_cell hb c20
                have c31 := up_cell hb c21
                obtain ⟨f0, f1, f2, hEr⟩ := HE3.out.errs
                have HO := Offer_any x (by omega) (by omega) hEr hA5
                rw [HOv.out.1, HOv.out.2] at HO
                have HO := Lib.hid HO
                clear hb HC hEr hA5
                go_wp2_with fail
                refine HO.out.mono ?_
                rintro e x6 ⟨rfl, hb⟩
                have HB4 := Lib.hid (HB3.out.trans (hb.mono HB3.out.size))
                have HA4 := Lib.hid (HA3.out.below hb)
                have HE4 := Lib.hid (HE3.out.below hb)
                have HL4 := Lib.hid (HL3.out.below hb)
                have c40 := up_cell hb c30
                have c41 := up_cell hb c31
                clear hb HO
                have HC := Lib.hid (CopyA_any HA4.out HQ.out)
                go_wp2_with fail
                refine HC.out.mono ?_
                rintro e x7 ⟨a7, e7, b7, d7, rfl, hA7, hb⟩
                have HB5 := Lib.hid (HB4.out.trans (hb.mono HB4.out.size))
                have HA5 := Lib.hid (HA4.out.below hb)
                have HE5 := Lib.hid (HE4.out.below hb)
                have HL5 := Lib.hid (HL4.out.below hb)
                have c50 := up_cell hb c40
                have c51 := up_cell hb c41
                have HAc7 := Lib.hid hA7
                have HNil := Lib.hid HL5.out.nils
                have HLn : Hid ((word.map (Value.int .i64)).length = wn * 1) := Lib.hid (by have := HL5.out.len; simp; omega)
                have HSrc := Lib.hid (ints_src HL5.out.cells)
                clear hb HC hA7
                go_wp2_with (at_builtin; (refine wpList_append_sz rfl (.const (.slice none 0 0)) (.tmp 76) 39 rfl x7.heap.size 3 iN (.int .i64 0) 1 8 Tryz.underlying39 hiN hN0 hN1 hN2 rfl (by decide) (.slice none 0 0) rfl 0 [] (World.ownsRow_nil _ _ _ _) wa wn wc rfl (word.map (Value.int .i64)) HNil.out HLn.out HSrc.out (fun u hu => by obtain ⟨z, _, rfl⟩ := List.mem_map.1 hu; rfl) (by unfold maxLen; omega) (by omega) (Nat.le_refl _) ?_); intro v8 x8 hv8 hg8 hat8; refine Hid.out ?_)
                refine Lib.hid ?_
                simp only [Nat.zero_add, List.nil_append] at hv8
                have hb : Below x7.heap.size x7 x8 := (Below.refl _ x7).grown hg8 (Nat.le_refl _) (fun k hk => by cases hk)
                have hwl : wn = word.length := HL5.out.len
                rw [hwl] at hv8
                obtain ⟨a8, c8, rfl, hI8⟩ := RowInts.arg hv8 (by omega)
                rw [← hwl]
                rw [← hwl] at hI8
                have HB6 := Lib.hid (HB5.out.trans (hb.mono HB5.out.size))
                have HA6 := Lib.hid (HA5.out.below hb)
                have HE6 := Lib.hid (HE5.out.below hb)
                have HL6 := Lib.hid (HL5.out.below hb)
                have c60 := up_cell hb c50
                have c61 := up_cell hb c51
                have HAc8 := Lib.hid (HAc7.out.below hb)
                obtain ⟨f0, f1, f2, hEr⟩ := HE6.out.errs
                have HO := After_any hEr HAc8.out hI8
                rw [HAv.out.1, HAv.out.2] at HO
                have HO := Lib.hid HO
                clear hb hEr hv8 hg8 hat8 hI8 hwl
                go_wp2_with fail
                refine HO.out.mono ?_
                rintro e x9 ⟨v9, rfl, hv9, hb⟩
                obtain ⟨a9, c9, rfl, hI9⟩ := hv9.arg (by simp)
                have HB7 := Lib.hid (HB6.out.trans (hb.mono HB6.out.size))
                have HA7 := Lib.hid (HA6.out.below hb)
                have HE7 := Lib.hid (HE6.out.below hb)
                have HL7 := Lib.hid (HL6.out.below hb)
                have c70 := up_cell hb c60
                have c71 := up_cell hb c61
                have HS := SameInts_any a9 _ c9 _ none 0 0 _ x9 hI9.len (none_ints x9).len (by simp) (by omega) hI9.cells (none_ints x9).cells
                rw [decide_eq_true rfl] at HS
                have HS := Lib.hid HS
                clear hb HO hv9 hI9
                go_wp2_with fail
                refine HS.out.mono ?_
                rintro e w' ⟨rfl, rfl⟩
                go_wp2_with fail
                refine (awake_any HE7.out).mono ?_
                rintro e xa ⟨rfl, hb⟩
                have HBz := Lib.hid (HB7.out.trans (hb.mono HB7.out.size))
                clear hb
                go_wp2
                go_ret
                exact ⟨rfl, HBz.out⟩
        · have HAv : Hid (aftC m word = 0 ∧ aftL m word = afterL m.states word) := Lib.hid (by unfold aftC aftL; rw [hv, hwd]; exact ⟨rfl, rfl⟩)
          rw [← HNm.out] at hwd
          have HWd := Lib.hid hwd
          clear hwd
          by_cases hx0 : x < 0
          · have HOv : Hid (offerV m x = 0 ∧ stC m x = 1) := Lib.hid (by
              have : stC m x = 1 := by unfold stC; rw [hv, if_pos rfl, if_neg (by omega)]
              refine ⟨?_, this⟩
              unfold offerV
              rw [this]
              rfl)
            have hx2 : decide ((0 : Int) ≤ x) = false := decide_eq_false (by omega)
            clear hv hI hq
            rcases h3 with s1 | ⟨s1, s2⟩ | ⟨s1, s2, s3⟩
            all_goals
              go_enter Tryz.func6, Tryz.ntmps6
              go_wp2_with fail
              rw [HW0.out]
              refine HF.out.mono ?_
              rintro e w' ⟨rfl, rfl⟩
              go_wp2_with fail
              refine HI.out.mono ?_
              rintro e x2 ⟨rfl, hb⟩
              have HB2 := Lib.hid (HB1.out.trans (hb.mono HB1.out.size))
              have HA2 := Lib.hid (HA1.out.below hb)
              have HE2 := Lib.hid (HE1.out.below hb)
              have HL2 := Lib.hid (HL1.out.below hb)
              have c20 := up_cell hb q0
              have c21 := up_cell hb q1
              clear hb
              have HC := RWord_any n (by omega) HL2.out
              rw [HWd.out] at HC
              have HC := Lib.hid HC
              go_wp2_with fail
              refine HC.out.mono ?_
              rintro e w' ⟨rfl, rfl⟩
              clear HC
              have HC := Lib.hid (RAfter_any HA2.out HV.out HL2.out)
              go_wp2_with fail
              refine HC.out.mono ?_
              rintro e x4 ⟨v4, rfl, hv4, hb⟩
              obtain ⟨a4, c4, rfl, hI4⟩ := hv4.arg (by have := afterL_len HV.out word; omega)
              have HB3 := Lib.hid (HB2.out.trans (hb.mono HB2.out.size))
              have HA3 := Lib.hid (HA2.out.below hb)
              have HE3 := Lib.hid (HE2.out.below hb)
              have HL3 := Lib.hid (HL2.out.below hb)
              have c30 := up_cell hb c20
              have c31 := up_cell hb c21
              have HW3 := Lib.hid hI4
              clear hb HC hv4 hI4
              have HC := Lib.hid (CopyA_any HA3.out HQ.out)
              go_wp2_with fail
              refine HC.out.mono ?_
              rintro e x5 ⟨a5, e5, b5, d5, rfl, hA5, hb⟩
              have HB4 := Lib.hid (HB3.out.trans (hb.mono HB3.out.size))
              have HA4 := Lib.hid (HA3.out.below hb)
              have HE4 := Lib.hid (HE3.out.below hb)
              have HL4 := Lib.hid (HL3.out.below hb)
              have c40 := up_cell hb c30
              have c41 := up_cell hb c31
              have HW4 := Lib.hid (HW3.out.below hb)
              obtain ⟨f0, f1, f2, hEr⟩ := HE4.out.errs
              have HO := Offer_any x (by omega) (by omega) hEr hA5
              rw [HOv.out.1, HOv.out.2] at HO
              have HO := Lib.hid HO
              clear hb HC hEr hA5
              go_wp2_with fail
              refine HO.out.mono ?_
              rintro e x6 ⟨rfl, hb⟩
              have HB5 := Lib.hid (HB4.out.trans (hb.mono HB4.out.size))
              have HA5 := Lib.hid (HA4.out.below hb)
              have HE5 := Lib.hid (HE4.out.below hb)
              have HL5 := Lib.hid (HL4.out.below hb)
              have c50 := up_cell hb c40
              have c51 := up_cell hb c41
              have HW5 := Lib.hid (HW4.out.below hb)
              clear hb HO
              have HC := Lib.hid (CopyA_any HA5.out HQ.out)
              go_wp2_with fail
              refine HC.out.mono ?_
              rintro e x7 ⟨a7, e7, b7, d7, rfl, hA7, hb⟩
              have HB6 := Lib.hid (HB5.out.trans (hb.mono HB5.out.size))
              have HA6 := Lib.hid (HA5.out.below hb)
              have HE6 := Lib.hid (HE5.out.below hb)
              have HL6 := Lib.hid (HL5.out.below hb)
              have c60 := up_cell hb c50
              have c61 := up_cell hb c51
              have HW6 := Lib.hid (HW5.out.below hb)
              have HAc7 := Lib.hid hA7
              have HNil := Lib.hid HL6.out.nils
              have HLn : Hid ((word.map (Value.int .i64)).length = wn * 1) := Lib.hid (by have := HL6.out.len; simp; omega)
              have HSrc := Lib.hid (ints_src HL6.out.cells)
              clear hb HC hA7
              go_wp2_with (at_builtin; (refine wpList_append_sz rfl (.const (.slice none 0 0)) (.tmp 76) 39 rfl x7.heap.size 3 iN (.int .i64 0) 1 8 Tryz.underlying39 hiN hN0 hN1 hN2 rfl (by decide) (.slice none 0 0) rfl 0 [] (World.ownsRow_nil _ _ _ _) wa wn wc rfl (word.map (Value.int .i64)) HNil.out HLn.out HSrc.out (fun u hu => by obtain ⟨z, _, rfl⟩ := List.mem_map.1 hu; rfl) (by unfold maxLen; omega) (by omega) (Nat.le_refl _) ?_); intro v8 x8 hv8 hg8 hat8; refine Hid.out ?_)
              refine Lib.hid ?_
              simp only [Nat.zero_add, List.nil_append] at hv8
              have hb : Below x7.heap.size x7 x8 := (Below.refl _ x7).grown hg8 (Nat.le_refl _) (fun k hk => by cases hk)
              have hwl : wn = word.length := HL6.out.len
              rw [hwl] at hv8
              obtain ⟨a8, c8, rfl, hI8⟩ := RowInts.arg hv8 (by omega)
              rw [← hwl]
              rw [← hwl] at hI8
              have HB7 := Lib.hid (HB6.out.trans (hb.mono HB6.out.size))
              have HA7 := Lib.hid (HA6.out.below hb)
              have HE7 := Lib.hid (HE6.out.below hb)
              have HL7 := Lib.hid (HL6.out.below hb)
              have c70 := up_cell hb c60
              have c71 := up_cell hb c61
              have HW7 := Lib.hid (HW6.out.below hb)
              have HAc8 := Lib.hid (HAc7.out.below hb)
              obtain ⟨f0, f1, f2, hEr⟩ := HE7.out.errs
              have HO := After_any hEr HAc8.out hI8
              rw [HAv.out.1, HAv.out.2] at HO
              have HO := Lib.hid HO
              clear hb hEr hv8 hg8 hat8 hI8 hwl
              go_wp2_with fail
              refine HO.out.mono ?_
              rintro e x9 ⟨v9, rfl, hv9, hb⟩
              obtain ⟨a9, c9, rfl, hI9⟩ := hv9.arg (by have := afterL_len HV.out word; omega)
              have HB8 := Lib.hid (HB7.out.trans (hb.mono HB7.out.size))
              have HA8 := Lib.hid (HA7.out.below hb)
              have HE8 := Lib.hid (HE7.out.below hb)
              have HL8 := Lib.hid (HL7.out.below hb)
              have c80 := up_cell hb c70
              have c81 := up_cell hb c71
              have HW8 := Lib.hid (HW7.out.below hb)
              have HS := SameInts_any a9 _ c9 _ a4 _ c4 _ x9 hI9.len HW8.out.len (by have := hI9.big; omega) (by have := HW8.out.big; omega) hI9.cells HW8.out.cells
              rw [decide_eq_true rfl] at HS
              have HS := Lib.hid HS
              clear hb HO hv9 hI9
              go_wp2_with fail
              refine HS.out.mono ?_
              rintro e w' ⟨rfl, rfl⟩
              go_wp2_with fail
              refine (awake_any HE8.out).mono ?_
              rintro e xa ⟨rfl, hb⟩
              have HBz := Lib.hid (HB8.out.trans (hb.mono HB8.out.size))
              clear hb
              go_wp2
              go_ret
              exact ⟨rfl, HBz.out⟩
          · by_cases hx1 : x < (k : Int)
            · obtain ⟨xn, rfl⟩ := Int.eq_ofNat_of_zero_le (show 0 ≤ x by omega)
              have hxn : xn < m.states.length := by have := HKm.out; omega
              have HOv : Hid (offerV m xn = (offN (stAt m.states xn) : Nat) ∧ stC m xn = 0) := Lib.hid (by
                have : stC m xn = 0 := by unfold stC; rw [hv, if_pos rfl, if_pos (by omega)]
                refine ⟨?_, this⟩
                unfold offerV
                rw [if_pos this]
                simp)
              clear hv hI hq
              rcases h3 with s1 | ⟨s1, s2⟩ | ⟨s1, s2, s3⟩
              all_goals
                go_enter Tryz.func6, Tryz.ntmps6
                go_wp2_with fail
                rw [HW0.out]
                refine HF.out.mono ?_
                rintro e w' ⟨rfl, rfl⟩
                go_wp2_with fail
                refine HI.out.mono ?_
                rintro e x2 ⟨rfl, hb⟩
                have HB2 := Lib.hid (HB1.out.trans (hb.mono HB1.out.size))
                have HA2 := Lib.hid (HA1.out.below hb)
                have HE2 := Lib.hid (HE1.out.below hb)
                have HL2 := Lib.hid (HL1.out.below hb)
                have c20 := up_cell hb q0
                have c21 := up_cell hb q1
                clear hb
                have HC := Lib.hid (ROffer_any HA2.out HV.out xn hxn)
                go_wp2_with fail
                refine HC.out.mono ?_
                rintro e x3 ⟨rfl, hb⟩
                have HB3 := Lib.hid (HB2.out.trans (hb.mono HB2.out.size))
                have HA3 := Lib.hid (HA2.out.below hb)
                have HE3 := Lib.hid (HE2.out.below hb)
                have HL3 := Lib.hid (HL2.out.below hb)
                have c30 := up_cell hb c20
                have c31 := up_cell hb c21
                clear hb HC
                have HC := RWord_any n (by omega) HL3.out
                rw [HWd.out] at HC
                have HC := Lib.hid HC
                go_wp2_with fail
                refine HC.out.mono ?_
                rintro e w' ⟨rfl, rfl⟩
                clear HC
                have HC := Lib.hid (RAfter_any HA3.out HV.out HL3.out)
                go_wp2_with fail
                refine HC.out.mono ?_
                rintro e x4 ⟨v4, rfl, hv4, hb⟩
                obtain ⟨a4, c4, rfl, hI4⟩ := hv4.arg (by have := afterL_len HV.out word; omega)
                have HB4 := Lib.hid (HB3.out.trans (hb.mono HB3.out.size))
                have HA4 := Lib.hid (HA3.out.below hb)
                have HE4 := Lib.hid (HE3.out.below hb)
                have HL4 := Lib.hid (HL3.out.below hb)
                have c40 := up_cell hb c30
                have c41 := up_cell hb c31
                have HW4 := Lib.hid hI4
                clear hb HC hv4 hI4
                have HC := Lib.hid (CopyA_any HA4.out HQ.out)
                go_wp2_with fail
                refine HC.out.mono ?_
                rintro e x5 ⟨a5, e5, b5, d5, rfl, hA5, hb⟩
                have HB5 := Lib.hid (HB4.out.trans (hb.mono HB4.out.size))
                have HA5 := Lib.hid (HA4.out.below hb)
                have HE5 := Lib.hid (HE4.out.below hb)
                have HL5 := Lib.hid (HL4.out.below hb)
                have c50 := up_cell hb c40
                have c51 := up_cell hb c41
                have HW5 := Lib.hid (HW4.out.below hb)
                obtain ⟨f0, f1, f2, hEr⟩ := HE5.out.errs
                have HO := Offer_any xn (by omega) (by omega) hEr hA5
                rw [HOv.out.1, HOv.out.2] at HO
                have HO := Lib.hid HO
                clear hb HC hEr hA5
                go_wp2_with fail
                refine HO.out.mono ?_
                rintro e x6 ⟨rfl, hb⟩
                have HB6 := Lib.hid (HB5.out.trans (hb.mono HB5.out.size))
                have HA6 := Lib.hid (HA5.out.below hb)
                have HE6 := Lib.hid (HE5.out.below hb)
                have HL6 := Lib.hid (HL5.out.below hb)
                have c60 := up_cell hb c50
                have c61 := up_cell hb c51
                have HW6 := Lib.hid (HW5.out.below hb)
                clear hb HO
                have HC := Lib.hid (CopyA_any HA6.out HQ.out)
                go_wp2_with fail
                refine HC.out.mono ?_
                rintro e x7 ⟨a7, e7, b7, d7, rfl, hA7, hb⟩
                have HB7 := Lib.hid (HB6.out.trans (hb.mono HB6.out.size))
                have HA7 := Lib.hid (HA6.out.below hb)
                have HE7 := Lib.hid (HE6.out.below hb)
                have HL7 := Lib.hid (HL6.out.below hb)
                have c70 := up_cell hb c60
                have c71 := up_cell hb c61
                have HW7 := Lib.hid (HW6.out.below hb)
                have HAc7 := Lib.hid hA7
                have HNil := Lib.hid HL7.out.nils
                have HLn : Hid ((word.map (Value.int .i64)).length = wn * 1) := Lib.hid (by have := HL7.out.len; simp; omega)
                have HSrc := Lib.hid (ints_src HL7.out.cells)
                clear hb HC hA7
                go_wp2_with (at_builtin; (refine wpList_append_sz rfl (.const (.slice none 0 0)) (.tmp 76) 39 rfl x7.heap.size 3 iN (.int .i64 0) 1 8 Tryz.underlying39 hiN hN0 hN1 hN2 rfl (by decide) (.slice none 0 0) rfl 0 [] (World.ownsRow_nil _ _ _ _) wa wn wc rfl (word.map (Value.int .i64)) HNil.out HLn.out HSrc.out (fun u hu => by obtain ⟨z, _, rfl⟩ := List.mem_map.1 hu; rfl) (by unfold maxLen; omega) (by omega) (Nat.le_refl _) ?_); intro v8 x8 hv8 hg8 hat8; refine Hid.out ?_)
                refine Lib.hid ?_
                simp only [Nat.zero_add, List.nil_append] at hv8
                have hb : Below x7.heap.size x7 x8 := (Below.refl _ x7).grown hg8 (Nat.le_refl _) (fun k hk => by cases hk)
                have hwl : wn = word.length := HL7.out.len
                rw [hwl] at hv8
                obtain ⟨a8, c8, rfl, hI8⟩ := RowInts.arg hv8 (by omega)
                rw [← hwl]
                rw [← hwl] at hI8
                have HB8 := Lib.hid (HB7.out.trans (hb.mono HB7.out.size))
                have HA8 := Lib.hid (HA7.out.below hb)
                have HE8 := Lib.hid (HE7.out.below hb)
                have HL8 := Lib.hid (HL7.out.below hb)
                have c80 := up_cell hb c70
                have c81 := up_cell hb c71
                have HW8 := Lib.hid (HW7.out.below hb)
                have HAc8 := Lib.hid (HAc7.out.below hb)
                obtain ⟨f0, f1, f2, hEr⟩ := HE8.out.errs
                have HO := After_any hEr HAc8.out hI8
                rw [HAv.out.1, HAv.out.2] at HO
                have HO := Lib.hid HO
                clear hb hEr hv8 hg8 hat8 hI8 hwl
                go_wp2_with fail
                refine HO.out.mono ?_
                rintro e x9 ⟨v9, rfl, hv9, hb⟩
                obtain ⟨a9, c9, rfl, hI9⟩ := hv9.arg (by have := afterL_len HV.out word; omega)
                have HB9 := Lib.hid (HB8.out.trans (hb.mono HB8.out.size))
                have HA9 := Lib.hid (HA8.out.below hb)
                have HE9 := Lib.hid (HE8.out.below hb)
                have HL9 := Lib.hid (HL8.out.below hb)
                have c90 := up_cell hb c80
                have c91 := up_cell hb c81
                have HW9 := Lib.hid (HW8.out.below hb)
                have HS := SameInts_any a9 _ c9 _ a4 _ c4 _ x9 hI9.len HW9.out.len (by have := hI9.big; omega) (by have := HW9.out.big; omega) hI9.cells HW9.out.cells
                rw [decide_eq_true rfl] at HS
                have HS := Lib.hid HS
                clear hb HO hv9 hI9
                go_wp2_with fail
                refine HS.out.mono ?_
                rintro e w' ⟨rfl, rfl⟩
                go_wp2_with fail
                refine (awake_any HE9.out).mono ?_
                rintro e xa ⟨rfl, hb⟩
                have HBz := Lib.hid (HB9.out.trans (hb.mono HB9.out.size))
                clear hb
                go_wp2
                go_ret
                exact ⟨rfl, HBz.out⟩
            · have HOv : Hid (offerV m x = 0 ∧ stC m x = 1) := Lib.hid (by
                have : stC m x = 1 := by unfold stC; rw [hv, if_pos rfl, if_neg (by have := HKm.out; omega)]
                refine ⟨?_, this⟩
                unfold offerV
                rw [this]
                rfl)
              have hx2 : decide (x < (k : Int)) = false := decide_eq_false hx1
              clear hv hI hq
              rcases h3 with s1 | ⟨s1, s2⟩ | ⟨s1, s2, s3⟩
              all_goals
                go_enter Tryz.func6, Tryz.ntmps6
                go_wp2_with fail
                rw [HW0.out]
                refine HF.out.mono ?_
                rintro e w' ⟨rfl, rfl⟩
                go_wp2_with fail
                refine HI.out.mono ?_
                rintro e x2 ⟨rfl, hb⟩
                have HB2 := Lib.hid (HB1.out.trans (hb.mono HB1.out.size))
                have HA2 := Lib.hid (HA1.out.below hb)
                have HE2 := Lib.hid (HE1.out.below hb)
                have HL2 := Lib.hid (HL1.out.below hb)
                have c20 := up_cell hb q0
                have c21 := up_cell hb q1
                clear hb
                have HC := RWord_any n (by omega) HL2.out
                rw [HWd.out] at HC
                have HC := Lib.hid HC
                go_wp2_with fail
                refine HC.out.mono ?_
                rintro e w' ⟨rfl, rfl⟩
                clear HC
                have HC := Lib.hid (RAfter_any HA2.out HV.out HL2.out)
                go_wp2_with fail
                refine HC.out.mono ?_
                rintro e x4 ⟨v4, rfl, hv4, hb⟩
                obtain ⟨a4, c4, rfl, hI4⟩ := hv4.arg (by have := afterL_len HV.out word; omega)
                have HB3 := Lib.hid (HB2.out.trans (hb.mono HB2.out.size))
                have HA3 := Lib.hid (HA2.out.below hb)
                have HE3 := Lib.hid (HE2.out.below hb)
                have HL3 := Lib.hid (HL2.out.below hb)
                have c30 := up_cell hb c20
                have c31 := up_cell hb c21
                have HW3 := Lib.hid hI4
                clear hb HC hv4 hI4
                have HC := Lib.hid (CopyA_any HA3.out HQ.out)
                go_wp2_with fail
                refine HC.out.mono ?_
                rintro e x5 ⟨a5, e5, b5, d5, rfl, hA5, hb⟩
                have HB4 := Lib.hid (HB3.out.trans (hb.mono HB3.out.size))
                have HA4 := Lib.hid (HA3.out.below hb)
                have HE4 := Lib.hid (HE3.out.below hb)
                have HL4 := Lib.hid (HL3.out.below hb)
                have c40 := up_cell hb c30
                have c41 := up_cell hb c31
                have HW4 := Lib.hid (HW3.out.below hb)
                obtain ⟨f0, f1, f2, hEr⟩ := HE4.out.errs
                have HO := Offer_any x (by omega) (by omega) hEr hA5
                rw [HOv.out.1, HOv.out.2] at HO
                have HO := Lib.hid HO
                clear hb HC hEr hA5
                go_wp2_with fail
                refine HO.out.mono ?_
                rintro e x6 ⟨rfl, hb⟩
                have HB5 := Lib.hid (HB4.out.trans (hb.mono HB4.out.size))
                have HA5 := Lib.hid (HA4.out.below hb)
                have HE5 := Lib.hid (HE4.out.below hb)
                have HL5 := Lib.hid (HL4.out.below hb)
                have c50 := up_cell hb c40
                have c51 := up_cell hb c41
                have HW5 := Lib.hid (HW4.out.below hb)
                clear hb HO
                have HC := Lib.hid (CopyA_any HA5.out HQ.out)
                go_wp2_with fail
                refine HC.out.mono ?_
                rintro e x7 ⟨a7, e7, b7, d7, rfl, hA7, hb⟩
                have HB6 := Lib.hid (HB5.out.trans (hb.mono HB5.out.size))
                have HA6 := Lib.hid (HA5.out.below hb)
                have HE6 := Lib.hid (HE5.out.below hb)
                have HL6 := Lib.hid (HL5.out.below hb)
                have c60 := up_cell hb c50
                have c61 := up_cell hb c51
                have HW6 := Lib.hid (HW5.out.below hb)
                have HAc7 := Lib.hid hA7
                have HNil := Lib.hid HL6.out.nils
                have HLn : Hid ((word.map (Value.int .i64)).length = wn * 1) := Lib.hid (by have := HL6.out.len; simp; omega)
                have HSrc := Lib.hid (ints_src HL6.out.cells)
                clear hb HC hA7
                go_wp2_with (at_builtin; (refine wpList_append_sz rfl (.const (.slice none 0 0)) (.tmp 76) 39 rfl x7.heap.size 3 iN (.int .i64 0) 1 8 Tryz.underlying39 hiN hN0 hN1 hN2 rfl (by decide) (.slice none 0 0) rfl 0 [] (World.ownsRow_nil _ _ _ _) wa wn wc rfl (word.map (Value.int .i64)) HNil.out HLn.out HSrc.out (fun u hu => by obtain ⟨z, _, rfl⟩ := List.mem_map.1 hu; rfl) (by unfold maxLen; omega) (by omega) (Nat.le_refl _) ?_); intro v8 x8 hv8 hg8 hat8; refine Hid.out ?_)
                refine Lib.hid ?_
                simp only [Nat.zero_add, List.nil_append] at hv8
                have hb : Below x7.heap.size x7 x8 := (Below.refl _ x7).grown hg8 (Nat.le_refl _) (fun k hk => by cases hk)
                have hwl : wn = word.length := HL6.out.len
                rw [hwl] at hv8
                obtain ⟨a8, c8, rfl, hI8⟩ := RowInts.arg hv8 (by omega)
                rw [← hwl]
                rw [← hwl] at hI8
                have HB7 := Lib.hid (HB6.out.trans (hb.mono HB6.out.size))
                have HA7 := Lib.hid (HA6.out.below hb)
                have HE7 := Lib.hid (HE6.out.below hb)
                have HL7 := Lib.hid (HL6.out.below hb)
                have c70 := up_cell hb c60
                have c71 := up_cell hb c61
                have HW7 := Lib.hid (HW6.out.below hb)
                have HAc8 := Lib.hid (HAc7.out.below hb)
                obtain ⟨f0, f1, f2, hEr⟩ := HE7.out.errs
                have HO := After_any hEr HAc8.out hI8
                rw [HAv.out.1, HAv.out.2] at HO
                have HO := Lib.hid HO
                clear hb hEr hv8 hg8 hat8 hI8 hwl
                go_wp2_with fail
                refine HO.out.mono ?_
                rintro e x9 ⟨v9, rfl, hv9, hb⟩
                obtain ⟨a9, c9, rfl, hI9⟩ := hv9.arg (by have := afterL_len HV.out word; omega)
                have HB8 := Lib.hid (HB7.out.trans (hb.mono HB7.out.size))
                have HA8 := Lib.hid (HA7.out.below hb)
                have HE8 := Lib.hid (HE7.out.below hb)
                have HL8 := Lib.hid (HL7.out.below hb)
                have c80 := up_cell hb c70
                have c81 := up_cell hb c71
                have HW8 := Lib.hid (HW7.out.below hb)
                have HS := SameInts_any a9 _ c9 _ a4 _ c4 _ x9 hI9.len HW8.out.len (by have := hI9.big; omega) (by have := HW8.out.big; omega) hI9.cells HW8.out.cells
                rw [decide_eq_true rfl] at HS
                have HS := Lib.hid HS
                clear hb HO hv9 hI9
                go_wp2_with fail
                refine HS.out.mono ?_
                rintro e w' ⟨rfl, rfl⟩
                go_wp2_with fail
                refine (awake_any HE8.out).mono ?_
                rintro e xa ⟨rfl, hb⟩
                have HBz := Lib.hid (HB8.out.trans (hb.mono HB8.out.size))
                clear hb
                go_wp2
                go_ret
                exact ⟨rfl, HBz.out⟩
end Go.Proofs.YtlnncklanabbdaaGreatDoor
