/- SystemBack: Parse of String returns the system. -/
import Derived.Test.YtlnncklanabbdaaGreatDoorVend
namespace Go.Proofs.YtlnncklanabbdaaGreatDoor
open Go.RowKit Pl

theorem strS_len {m : Syst} (h : sysB m = true) : (strS m).length ≤ 20000000 := by
  have h1 := strK_len h m.states.length (Nat.le_refl _)
  rw [List.take_length] at h1
  have h2 := (sysB_iff m).1 h
  unfold strS
  omega
theorem strS_pos (m : Syst) : 0 < (strS m).length := by rw [strS_lines]; simp
theorem cut_data (s : ByteArray) (k : Nat) : (s.extract 0 k).data.toList = s.data.toList.take k := by
  rw [Lib.extract_data, List.drop_zero, Nat.sub_zero]

set_option maxRecDepth 100000 in
set_option maxHeartbeats 8000000 in
theorem SystemBack_any {w : World} {a : Option Addr} {n c : Nat} {b : Option Addr} {k d : Nat} {m : Syst} (E : Env w) (A : SysArg w a n c b k d m) :
    Calls Tryz.prog 5 #[.agg #[.slice a n c, .slice b k d]] w fun e w' => e = .returned (.bool true) ∧ Below w.heap.size w w' := by
  have hB := (Below.refl w.heap.size w).alloc (Nat.le_refl _) (.cells #[.slice a n c, .slice b k d] 25)
  obtain ⟨w0, hw0⟩ : ∃ w0, w.alloc (.cells #[.slice a n c, .slice b k d] 25) = w0 := ⟨_, rfl⟩
  have hA := A.below hB
  have hE := E.below hB
  have hW := Whole.new w 25 #[.slice a n c, .slice b k d]
  rw [hw0] at hA hE hW hB
  have HW0 := Lib.hid hw0
  have HF := Few_any 20000 (by decide) hA
  obtain ⟨w1, hw1⟩ : ∃ w1, w0.alloc (.cells #[.slice a n c, .slice b k d] 25) = w1 := ⟨_, rfl⟩
  rw [hw1] at HF
  have hb1 : Below w0.heap.size w0 w1 := by rw [← hw1]; exact (Below.refl _ w0).alloc (Nat.le_refl _) _
  have HF := Lib.hid HF
  have hA1 := hA.below hb1
  have hE1 := hE.below hb1
  have hW1 := hW.below hb1 hW.lt
  have HB1 := Lib.hid (hB.trans (hb1.mono hB.size))
  have HE1 := Lib.hid hE1
  have p0 : w0.cell? ⟨w.heap.size, 0, none⟩ = some (.slice a n c) := hW.cell 0
  have p1 : w0.cell? ⟨w.heap.size, 1, none⟩ = some (.slice b k d) := hW.cell 1
  have q0 : w1.cell? ⟨w.heap.size, 0, none⟩ = some (.slice a n c) := hW1.cell 0
  have q1 : w1.cell? ⟨w.heap.size, 1, none⟩ = some (.slice b k d) := hW1.cell 1
  have HA1 := Lib.hid hA1
  have HW1 := Lib.hid hW1
  clear hB hA hE hW hw0 hw1 hb1 hA1 hE1 hW1 A E
  cases hf : fewB m 20000
  · rw [hf] at HF
    go_enter Tryz.func5, Tryz.ntmps5
    go_wp2_with fail
    rw [HW0.out]
    refine HF.out.mono ?_
    rintro e w' ⟨rfl, rfl⟩
    go_wp2_with fail
    refine (awake_any HE1.out).mono ?_
    rintro e w2 ⟨rfl, hb2⟩
    have HB2 := Lib.hid (HB1.out.trans (hb2.mono HB1.out.size))
    clear hb2
    go_wp2
    go_ret
    exact ⟨rfl, HB2.out⟩
  · rw [hf] at HF
    have hf' := (fewB_iff m 20000).1 hf
    have HFE := Lib.hid hf'
    have HC := Lib.hid (Copy_any HA1.out (by omega))
    clear hf hf'
    go_enter Tryz.func5, Tryz.ntmps5
    go_wp2_with fail
    rw [HW0.out]
    refine HF.out.mono ?_
    rintro e w' ⟨rfl, rfl⟩
    go_wp2_with fail
    refine HC.out.mono ?_
    rintro e w2 ⟨va, vs, rfl, hO, hb2⟩
    obtain ⟨a2, c2, b2, d2, rfl, rfl, hA2⟩ := hO.arg (by have := HFE.out; omega) (by have := HFE.out; omega) (fun i hi => by have := HFE.out; have := total_take_le m.states (i + 1); have := total_take m.states i hi; omega) (fun k hk => HA1.out.acts.sz k (by have := HA1.out.acts.len; omega))
    have HB2 := Lib.hid (HB1.out.trans (hb2.mono HB1.out.size))
    have HE2 := Lib.hid (HE1.out.below hb2)
    have HS := Lib.hid (SString_any HE2.out hA2)
    have HW2 := Lib.hid (HW1.out.below hb2 HW1.out.lt)
    have HA2 := Lib.hid (HA1.out.below hb2)
    clear hO hA2 hb2
    go_wp2_with fail
    refine HS.out.mono ?_
    rintro e w3 ⟨rfl, hb3⟩
    have HB3 := Lib.hid (HB2.out.trans (hb3.mono HB2.out.size))
    have HE3 := Lib.hid (HE2.out.below hb3)
    have hW3 := HW2.out.below hb3 HW2.out.lt
    have HA3 := Lib.hid (HA2.out.below hb3)
    have HW3 := Lib.hid hW3
    have r0 : w3.cell? ⟨w.heap.size, 0, none⟩ = some (.slice a n c) := hW3.cell 0
    have r1 : w3.cell? ⟨w.heap.size, 1, none⟩ = some (.slice b k d) := hW3.cell 1
    clear hb3 hW3 HS
    cases hv : sysB m
    · rw [sstrV_no hv]
      have HI := Lib.hid (RIs_any HA3.out (by have := HFE.out; omega))
      rw [hv] at HI
      go_wp2_with fail
      refine HI.out.mono ?_
      rintro e w4 ⟨rfl, hb4⟩
      have HB4 := Lib.hid (HB3.out.trans (hb4.mono HB3.out.size))
      have HE4 := Lib.hid (HE3.out.below hb4)
      clear hb4
      go_wp2_with fail
      refine (awake_any HE4.out).mono ?_
      rintro e w5 ⟨rfl, hb5⟩
      have HB5 := Lib.hid (HB4.out.trans (hb5.mono HB4.out.size))
      clear hb5
      go_wp2
      go_ret
      exact ⟨rfl, HB5.out⟩
    · rw [sstrV_yes hv]
      have HV := Lib.hid hv
      have hlen := strS_len hv
      have hpos := strS_pos m
      obtain ⟨s, HSS⟩ : ∃ s, Hid (mk (strS m) = s) := ⟨_, Lib.hid rfl⟩
      have hsz : s.size = (strS m).length := by rw [← HSS.out, mk_size']
      rw [HSS.out]
      have hP := SParse_any s (by omega) w3 HE3.out
      have hd : s.data.toList = strS m := by rw [← HSS.out]; exact mk_data _
      rw [hd] at hP
      have HP := Lib.hid hP
      have hs1 : 0 < s.size := by omega
      have hs2 : s.size ≤ 20000000 := by omega
      have HSZ := Lib.hid hsz
      have HD := Lib.hid hd
      clear hv hlen hpos hsz hP hd
      go_wp2_with fail
      refine HP.out.mono ?_
      rintro e w4 ⟨a4, n4, c4, b4, k4, d4, rfl, hA4, hb4⟩
      have hb4' := hb4.alloc hb4.size (.cells #[.slice a4 n4 c4, .slice b4 k4 d4] 25)
      have hA4' := hA4.below ((Below.refl _ w4).alloc (Nat.le_refl _) (.cells #[.slice a4 n4 c4, .slice b4 k4 d4] 25))
      have hW4 := Whole.new w4 25 #[.slice a4 n4 c4, .slice b4 k4 d4]
      obtain ⟨w5, hw5⟩ : ∃ w5, w4.alloc (.cells #[.slice a4 n4 c4, .slice b4 k4 d4] 25) = w5 := ⟨_, rfl⟩
      rw [hw5] at hb4' hA4' hW4
      have HW5' := Lib.hid hw5
      have HB5 := Lib.hid (HB3.out.trans (hb4'.mono HB3.out.size))
      have HE5 := Lib.hid (HE3.out.below hb4')
      have HA5 := Lib.hid hA4'
      have HAm := Lib.hid (HA3.out.below hb4')
      have HW5 := Lib.hid hW4
      have hWm := HW3.out.below hb4' HW3.out.lt
      have HWm := Lib.hid hWm
      clear hb4 hb4' hA4 hA4' hW4 hw5 hWm HP
      by_cases hl : 60000 < s.size
      · have HX : Hid ((parseS (strS m)).2 = 2) := Lib.hid (by rw [parseS_large (by rw [← HSZ.out]; exact hl)])
        rw [HX.out]
        have hl' : (60000 : Int) < s.size := by omega
        go_wp2_with fail
        rw [HW5'.out]
        refine (awake_any HE5.out).mono ?_
        rintro e w6 ⟨rfl, hb6⟩
        have HB6 := Lib.hid (HB5.out.trans (hb6.mono HB5.out.size))
        clear hb6
        go_wp2
        go_ret
        exact ⟨rfl, HB6.out⟩
      · have HX : Hid (parseS (strS m) = (m, 0)) := Lib.hid (parse_str HV.out (by rw [← HSZ.out]; omega))
        rw [HX.out] at HA5 ⊢
        have hl' : (s.size : Int) ≤ 60000 := by omega
        have hne : s.toList.isEmpty = false := by
          rw [ByteArray.toList_eq, List.isEmpty_eq_false_iff]
          intro e
          have := Lib.size_eq s
          rw [e, List.length_nil] at this
          omega
        have HQ := SParse_any (s.extract 0 (s.size - 1)) (by simp; omega) w5 HE5.out
        rw [cut_data, HD.out, HSZ.out, parse_cut HV.out (by rw [← HSZ.out]; omega)] at HQ
        rw [← HSZ.out] at HQ
        have HQ := Lib.hid HQ
        go_wp2_with fail
        rw [HW5'.out]
        refine HQ.out.mono ?_
        rintro e w6 ⟨a6, n6, c6, b6, k6, d6, rfl, hA6, hb6⟩
        have hb6' := hb6.alloc hb6.size (.cells #[.slice a6 n6 c6, .slice b6 k6 d6] 25)
        have hA6' := hA6.below ((Below.refl _ w6).alloc (Nat.le_refl _) (.cells #[.slice a6 n6 c6, .slice b6 k6 d6] 25))
        have hW6 := Whole.new w6 25 #[.slice a6 n6 c6, .slice b6 k6 d6]
        obtain ⟨w7, hw7⟩ : ∃ w7, w6.alloc (.cells #[.slice a6 n6 c6, .slice b6 k6 d6] 25) = w7 := ⟨_, rfl⟩
        rw [hw7] at hb6' hA6' hW6
        have HW7' := Lib.hid hw7
        have HB7 := Lib.hid (HB5.out.trans (hb6'.mono HB5.out.size))
        have HE7 := Lib.hid (HE5.out.below hb6')
        have HA7 := Lib.hid hA6'
        have HAm7 := Lib.hid (HAm.out.below hb6')
        have HAp7 := Lib.hid (HA5.out.below hb6')
        have HW7 := Lib.hid hW6
        have HWm7 := Lib.hid (HWm.out.below hb6' HWm.out.lt)
        have HWp7 := Lib.hid (HW5.out.below hb6' HW5.out.lt)
        have hsame : sameB m m = true := (sameB_iff m m).2 rfl
        have HS1 := RSame_any HAp7.out HAm7.out
        rw [hsame] at HS1
        have HS1 := Lib.hid HS1
        have t0 : (w6.alloc (.cells #[.slice a6 n6 c6, .slice b6 k6 d6] 25)).cell? ⟨w4.heap.size, 0, none⟩ = some (.slice a4 n4 c4) := cell_new ((HW5.out.below hb6 HW5.out.lt).cell 0) _
        have t1 : (w6.alloc (.cells #[.slice a6 n6 c6, .slice b6 k6 d6] 25)).cell? ⟨w4.heap.size, 1, none⟩ = some (.slice b4 k4 d4) := cell_new ((HW5.out.below hb6 HW5.out.lt).cell 1) _
        have u0 : (w6.alloc (.cells #[.slice a6 n6 c6, .slice b6 k6 d6] 25)).cell? ⟨w.heap.size, 0, none⟩ = some (.slice a n c) := cell_new ((HWm.out.below hb6 HWm.out.lt).cell 0) _
        have u1 : (w6.alloc (.cells #[.slice a6 n6 c6, .slice b6 k6 d6] 25)).cell? ⟨w.heap.size, 1, none⟩ = some (.slice b k d) := cell_new ((HWm.out.below hb6 HWm.out.lt).cell 1) _
        clear hb6 hb6' hA6 hA6' hW6 hw7
        go_wp2_with fail
        rw [HW7'.out]
        refine HS1.out.mono ?_
        rintro e w8 ⟨rfl, hb8⟩
        have HB8 := Lib.hid (HB7.out.trans (hb8.mono HB7.out.size))
        have HE8 := Lib.hid (HE7.out.below hb8)
        have hWm8 := HWm7.out.below hb8 HWm7.out.lt
        have hWq8 := HW7.out.below hb8 HW7.out.lt
        have HS2 := RSame_any (HA7.out.below hb8) (HAm7.out.below hb8)
        rw [hsame] at HS2
        have HS2 := Lib.hid HS2
        have v0 : w8.cell? ⟨w6.heap.size, 0, none⟩ = some (.slice a6 n6 c6) := hWq8.cell 0
        have v1 : w8.cell? ⟨w6.heap.size, 1, none⟩ = some (.slice b6 k6 d6) := hWq8.cell 1
        have x0 : w8.cell? ⟨w.heap.size, 0, none⟩ = some (.slice a n c) := hWm8.cell 0
        have x1 : w8.cell? ⟨w.heap.size, 1, none⟩ = some (.slice b k d) := hWm8.cell 1
        clear hb8 hWm8 hWq8
        go_wp2_with fail
        refine HS2.out.mono ?_
        rintro e w9 ⟨rfl, hb9⟩
        have HB9 := Lib.hid (HB8.out.trans (hb9.mono HB8.out.size))
        have HE9 := Lib.hid (HE8.out.below hb9)
        clear hb9
        go_wp2_with fail
        refine (awake_any HE9.out).mono ?_
        rintro e wz ⟨rfl, hbz⟩
        have HBz := Lib.hid (HB9.out.trans (hbz.mono HB9.out.size))
        clear hbz
        go_wp2
        go_ret
        exact ⟨rfl, HBz.out⟩
end Go.Proofs.YtlnncklanabbdaaGreatDoor
