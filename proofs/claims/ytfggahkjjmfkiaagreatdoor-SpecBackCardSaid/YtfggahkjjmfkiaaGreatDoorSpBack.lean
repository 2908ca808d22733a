/- SpecBack: Parse of String returns the specification. -/
import Derived.Test.YtfggahkjjmfkiaaGreatDoorJoinD
import Derived.Test.YtfggahkjjmfkiaaGreatDoorSCopyA
namespace Go.Proofs.YtfggahkjjmfkiaaGreatDoor
open Go.RowKit Pl

theorem strSp_len {s : Spc} (hv : spcB s = true) (h : ∀ i, i < s.states.length → ∀ z ∈ (teAt s.states i).1, z ≤ 9223372036854775807) : (strSp s).length ≤ 2000000000 := by
  have h1 := textY_len hv h s.states.length (Nat.le_refl _)
  have h2 : textY s s.states.length = strSp s := by unfold textY strSp objS; rw [List.length_map]
  have h3 := (spcB_iff s).1 hv
  rw [h2] at h1
  omega
theorem strSp_pos (s : Spc) : 0 < (strSp s).length := by
  unfold strSp objS objK
  simp only [List.length_append, List.length_cons, List.length_nil]
  omega
theorem spcut_data (s : ByteArray) (k : Nat) : (s.extract 0 k).data.toList = s.data.toList.take k := by
  rw [Lib.extract_data, List.drop_zero, Nat.sub_zero]
theorem parseSp_large {l : List UInt8} (h : 60000 < l.length) : (parseSp l).2 = 2 := by
  unfold parseSp
  rw [textK_large h]
  rfl
theorem spArg_small {w : World} {a : Option Addr} {n c : Nat} {b : Option Addr} {k d : Nat} {s : Spc} (A : SpecArg w a n c b k d s) : ∀ i, i < s.states.length → ∀ z ∈ (teAt s.states i).1, z ≤ 9223372036854775807 := fun i hi z hz => by
  obtain ⟨_, _, _, _, _, _, _, _, _, _, _, h1, _⟩ := A.rows i hi
  obtain ⟨j, hj, rfl⟩ := List.getElem_of_mem hz
  have := (h1.rng j hj).2
  rwa [List.getD_eq_getElem?_getD, List.getElem?_eq_getElem hj, Option.getD_some] at this

set_option maxRecDepth 100000 in
set_option maxHeartbeats 8000000 in
theorem SpecBack_any {w : World} {a : Option Addr} {n c : Nat} {b : Option Addr} {k d : Nat} {s : Spc} (E : Env w) (T : Tab w) (A : SpecArg w a n c b k d s) :
    Calls Tryz.prog 5 #[.agg #[.slice a n c, .slice b k d]] w fun e w' => e = .returned (.bool true) ∧ Below w.heap.size w w' := by
  have hB := (Below.refl w.heap.size w).alloc (Nat.le_refl _) (.cells #[.slice a n c, .slice b k d] 25)
  have hX := Whole.new w 25 #[.slice a n c, .slice b k d]
  have HX := Lib.hid hX
  have HB0 := Lib.hid hB
  have HF := Lib.hid (SFew_any 20000 (by decide) (A.below hB))
  have HHX := Lib.hid (spArg_small A)
  have HA := Lib.hid A
  have HE := Lib.hid E
  have HT := Lib.hid T
  clear hB hX A E T
  cases hf : fewS s 20000
  · rw [hf] at HF
    go_enter Tryz.func5, Tryz.ntmps5
    go_wp2_with fail
    refine HF.out.mono ?_
    rintro e w1 ⟨rfl, hb1⟩
    have HB1 := Lib.hid (HB0.out.trans (hb1.mono HB0.out.size))
    clear hb1
    go_wp2_with fail
    refine (awakeS_any (HE.out.below HB1.out) (HT.out.below HB1.out)).mono ?_
    rintro e w2 ⟨rfl, hb2⟩
    have HB2 := Lib.hid (HB1.out.trans (hb2.mono HB1.out.size))
    clear hb2
    go_wp2
    go_ret
    exact ⟨rfl, HB2.out⟩
  · rw [hf] at HF
    have HQ : Hid (s.acts.length + s.states.length + totalS s.states ≤ 1000000) := Lib.hid (by have := (fewS_iff s 20000).1 hf; omega)
    clear hf
    go_enter Tryz.func5, Tryz.ntmps5
    go_wp2_with fail
    refine HF.out.mono ?_
    rintro e w1 ⟨rfl, hb1⟩
    have HB1 := Lib.hid (HB0.out.trans (hb1.mono HB0.out.size))
    have hx1 := HX.out.below hb1 HX.out.lt
    have k0 : w1.cell? ⟨w.heap.size, 0, none⟩ = some (.slice a n c) := hx1.cell 0
    have k1 : w1.cell? ⟨w.heap.size, 1, none⟩ = some (.slice b k d) := hx1.cell 1
    have HW1 := Lib.hid hx1
    have HC := Lib.hid (SCopyA_any (HA.out.below HB1.out) HQ.out)
    clear hb1 hx1
    go_wp2_with fail
    refine HC.out.mono ?_
    rintro e w2 ⟨a2, c2, b2, d2, rfl, hA2, hb2⟩
    have HB2 := Lib.hid (HB1.out.trans (hb2.mono HB1.out.size))
    have HE2 := Lib.hid (HE.out.below HB2.out)
    have HT2 := Lib.hid (HT.out.below HB2.out)
    have HS := Lib.hid (SpString_any HE2.out HT2.out hA2)
    have HW2 := Lib.hid (HW1.out.below hb2 HW1.out.lt)
    have HA2 := Lib.hid (HA.out.below HB2.out)
    clear hA2 hb2
    go_wp2_with fail
    refine HS.out.mono ?_
    rintro e w3 ⟨rfl, hb3⟩
    have HB3 := Lib.hid (HB2.out.trans (hb3.mono HB2.out.size))
    have HE3 := Lib.hid (HE2.out.below hb3)
    have HT3 := Lib.hid (HT2.out.below hb3)
    have hW3 := HW2.out.below hb3 HW2.out.lt
    have HA3 := Lib.hid (HA2.out.below hb3)
    have HW3 := Lib.hid hW3
    have r0 : w3.cell? ⟨w.heap.size, 0, none⟩ = some (.slice a n c) := hW3.cell 0
    have r1 : w3.cell? ⟨w.heap.size, 1, none⟩ = some (.slice b k d) := hW3.cell 1
    clear hb3 hW3 HS
    cases hv : spcB s
    · rw [spStrV_no hv]
      have HI := Lib.hid (RSIs_any HA3.out)
      rw [hv] at HI
      go_wp2_with fail
      refine HI.out.mono ?_
      rintro e w4 ⟨rfl, hb4⟩
      have HB4 := Lib.hid (HB3.out.trans (hb4.mono HB3.out.size))
      have HE4 := Lib.hid (HE3.out.below hb4)
      have HT4 := Lib.hid (HT3.out.below hb4)
      clear hb4
      go_wp2_with fail
      refine (awakeS_any HE4.out HT4.out).mono ?_
      rintro e w5 ⟨rfl, hb5⟩
      have HB5 := Lib.hid (HB4.out.trans (hb5.mono HB4.out.size))
      clear hb5
      go_wp2
      go_ret
      exact ⟨rfl, HB5.out⟩
    · rw [spStrV_yes hv]
      have HV := Lib.hid hv
      have hlen := strSp_len hv HHX.out
      have hpos := strSp_pos s
      obtain ⟨tx, HSS⟩ : ∃ z, Hid (mk (strSp s) = z) := ⟨_, Lib.hid rfl⟩
      have hsz : tx.size = (strSp s).length := by rw [← HSS.out, mk_size']
      rw [HSS.out]
      have hP := SpParse_any tx (by omega) w3 HE3.out
      have hd : tx.data.toList = strSp s := by rw [← HSS.out]; exact mk_data _
      rw [hd] at hP
      have HP := Lib.hid hP
      have hs1 : 0 < tx.size := by omega
      have hs2 : tx.size ≤ 2000000000 := by omega
      have HSZ := Lib.hid hsz
      have HD := Lib.hid hd
      clear hv hlen hpos hsz hP hd
      go_wp2_with fail
      refine HP.out.mono ?_
      rintro e w4 ⟨a4, n4, c4, b4, k4, d4, rfl, hA4, hb4⟩
      have hb4' := hb4.alloc hb4.size (.cells #[.slice a4 n4 c4, .slice b4 k4 d4] 25)
      have hA4' := hA4.below ((Below.refl _ w4).alloc (Nat.le_refl _) (.cells #[.slice a4 n4 c4, .slice b4 k4 d4] 25))
      have hW4 := Whole.new w4 25 #[.slice a4 n4 c4, .slice b4 k4 d4]
      obtain ⟨w5, hw5⟩ : ∃ w5, w4.alloc (.cells #[.slice a4 n4 c4, .slice b4 k4 d4] 25) = w5 := ⟨_, rfl⟩
      rw [hw5] at hb4' hA4' hW4
      have HW5' := Lib.hid hw5
      have HB5 := Lib.hid (HB3.out.trans (hb4'.mono HB3.out.size))
      have HE5 := Lib.hid (HE3.out.below hb4')
      have HT5 := Lib.hid (HT3.out.below hb4')
      have HA5 := Lib.hid hA4'
      have HAm := Lib.hid (HA3.out.below hb4')
      have HW5 := Lib.hid hW4
      have hWm := HW3.out.below hb4' HW3.out.lt
      have HWm := Lib.hid hWm
      clear hb4 hb4' hA4 hA4' hW4 hw5 hWm HP
      by_cases hl : 60000 < tx.size
      · have HX : Hid ((parseSp (strSp s)).2 = 2) := Lib.hid (by rw [parseSp_large (by rw [← HSZ.out]; exact hl)])
        rw [HX.out]
        have hl' : (60000 : Int) < tx.size := by omega
        go_wp2_with fail
        rw [HW5'.out]
        refine (awakeS_any HE5.out HT5.out).mono ?_
        rintro e w6 ⟨rfl, hb6⟩
        have HB6 := Lib.hid (HB5.out.trans (hb6.mono HB5.out.size))
        clear hb6
        go_wp2
        go_ret
        exact ⟨rfl, HB6.out⟩
      · have HX : Hid (parseSp (strSp s) = (s, 0)) := Lib.hid ((parse_strSp HV.out HHX.out (by rw [← HSZ.out]; omega)).1)
        rw [HX.out] at HA5 ⊢
        have hl' : (tx.size : Int) ≤ 60000 := by omega
        have hne : tx.toList.isEmpty = false := by
          rw [ByteArray.toList_eq, List.isEmpty_eq_false_iff]
          intro e
          have := Lib.size_eq tx
          rw [e, List.length_nil] at this
          omega
        have HQ := SpParse_any (tx.extract 0 (tx.size - 1)) (by simp; omega) w5 HE5.out
        rw [spcut_data, HD.out, HSZ.out, (parse_strSp HV.out HHX.out (by rw [← HSZ.out]; omega)).2] at HQ
        rw [← HSZ.out] at HQ
        have HQ := Lib.hid HQ
        go_wp2_with fail
        rw [HW5'.out]
        refine HQ.out.mono ?_
        rintro e w6 ⟨a6, n6, c6, b6, k6, d6, rfl, hA6, hb6⟩
        have hb6' := hb6.alloc hb6.size (.cells #[.slice a6 n6 c6, .slice b6 k6 d6] 25)
        have hA6' := hA6.below ((Below.refl _ w6).alloc (Nat.le_refl _) (.cells #[.slice a6 n6 c6, .slice b6 k6 d6] 25))
        have hW6 := Whole.new w6 25 #[.slice a6 n6 c6, .slice b6 k6 d6]
        obtain ⟨w7, hw7⟩ : ∃ w7, w6.alloc (.cells #[.slice a6 n6 c6, .slice b6 k6 d6] 25) = w7 := ⟨_, rfl⟩
        rw [hw7] at hb6' hA6' hW6
        have HW7' := Lib.hid hw7
        have HB7 := Lib.hid (HB5.out.trans (hb6'.mono HB5.out.size))
        have HE7 := Lib.hid (HE5.out.below hb6')
        have HT7 := Lib.hid (HT5.out.below hb6')
        have HA7 := Lib.hid hA6'
        have HAm7 := Lib.hid (HAm.out.below hb6')
        have HAp7 := Lib.hid (HA5.out.below hb6')
        have HW7 := Lib.hid hW6
        have HWm7 := Lib.hid (HWm.out.below hb6' HWm.out.lt)
        have HWp7 := Lib.hid (HW5.out.below hb6' HW5.out.lt)
        have hsame : sameP s s = true := (sameP_iff s s).2 rfl
        have HS1 := RSSame_any HAp7.out HAm7.out
        rw [hsame] at HS1
        have HS1 := Lib.hid HS1
        have t0 : (w6.alloc (.cells #[.slice a6 n6 c6, .slice b6 k6 d6] 25)).cell? ⟨w4.heap.size, 0, none⟩ = some (.slice a4 n4 c4) := cell_new ((HW5.out.below hb6 HW5.out.lt).cell 0) _
        have t1 : (w6.alloc (.cells #[.slice a6 n6 c6, .slice b6 k6 d6] 25)).cell? ⟨w4.heap.size, 1, none⟩ = some (.slice b4 k4 d4) := cell_new ((HW5.out.below hb6 HW5.out.lt).cell 1) _
        have u0 : (w6.alloc (.cells #[.slice a6 n6 c6, .slice b6 k6 d6] 25)).cell? ⟨w.heap.size, 0, none⟩ = some (.slice a n c) := cell_new ((HWm.out.below hb6 HWm.out.lt).cell 0) _
        have u1 : (w6.alloc (.cells #[.slice a6 n6 c6, .slice b6 k6 d6] 25)).cell? ⟨w.heap.size, 1, none⟩ = some (.slice b k d) := cell_new ((HWm.out.below hb6 HWm.out.lt).cell 1) _
        clear hb6 hb6' hA6 hA6' hW6 hw7
        go_wp2_with fail
        rw [HW7'.out]
        refine HS1.out.mono ?_
        rintro e w8 ⟨rfl, hb8⟩
        have HB8 := Lib.hid (HB7.out.trans (hb8.mono HB7.out.size))
        have HE8 := Lib.hid (HE7.out.below hb8)
        have HT8 := Lib.hid (HT7.out.below hb8)
        have hWm8 := HWm7.out.below hb8 HWm7.out.lt
        have hWq8 := HW7.out.below hb8 HW7.out.lt
        have HS2 := RSSame_any (HA7.out.below hb8) (HAm7.out.below hb8)
        rw [hsame] at HS2
        have HS2 := Lib.hid HS2
        have v0 : w8.cell? ⟨w6.heap.size, 0, none⟩ = some (.slice a6 n6 c6) := hWq8.cell 0
        have v1 : w8.cell? ⟨w6.heap.size, 1, none⟩ = some (.slice b6 k6 d6) := hWq8.cell 1
        have x0 : w8.cell? ⟨w.heap.size, 0, none⟩ = some (.slice a n c) := hWm8.cell 0
        have x1 : w8.cell? ⟨w.heap.size, 1, none⟩ = some (.slice b k d) := hWm8.cell 1
        clear hb8 hWm8 hWq8
        go_wp2_with fail
        refine HS2.out.mono ?_
        rintro e w9 ⟨rfl, hb9⟩
        have HB9 := Lib.hid (HB8.out.trans (hb9.mono HB8.out.size))
        have HE9 := Lib.hid (HE8.out.below hb9)
        have HT9 := Lib.hid (HT8.out.below hb9)
        clear hb9
        go_wp2_with fail
        refine (awakeS_any HE9.out HT9.out).mono ?_
        rintro e wz ⟨rfl, hbz⟩
        have HBz := Lib.hid (HB9.out.trans (hbz.mono HB9.out.size))
        clear hbz
        go_wp2
        go_ret
        exact ⟨rfl, HBz.out⟩
end Go.Proofs.YtfggahkjjmfkiaaGreatDoor
