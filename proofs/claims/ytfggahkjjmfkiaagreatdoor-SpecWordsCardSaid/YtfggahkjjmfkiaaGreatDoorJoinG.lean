/- Texts joined: Go, PAfter, SWords. -/
import Derived.Test.YtfggahkjjmfkiaaGreatDoorRSpc2
import Derived.Test.YtfggahkjjmfkiaaGreatDoorPCheck
import Derived.Test.YtfggahkjjmfkiaaGreatDoorIsW
import Derived.Test.YtfggahkjjmfkiaaGreatDoorSCopyA
/- The reference's Go, and spec.After. -/
namespace Go.Proofs.YtfggahkjjmfkiaaGreatDoor
open Go.RowKit Pl

/-- where j actions lead -/
def goN (ss : List Ste) (word : List Int) (x0 : Int) : Nat → Int
  | 0 => x0
  | j + 1 => if goN ss word x0 j < 0 then -1 else (teAt ss (goN ss word x0 j).toNat).2.getD (word.getD j 0).toNat 0
theorem goN_next {ss : List Ste} {word : List Int} {x0 : Int} {j X Y : Nat} {g : Int} (h : goN ss word x0 j = (X : Int)) (hw : word.getD j 0 = (Y : Int)) (hg : (teAt ss X).2.getD Y 0 = g) : goN ss word x0 (j + 1) = g := by
  rw [goN, h, hw, if_neg (by omega), Int.toNat_natCast, Int.toNat_natCast, hg]
theorem goN_gone {ss : List Ste} {word : List Int} {x0 : Int} {j : Nat} (h : goN ss word x0 j < 0) : ∀ i, goN ss word x0 (j + 1 + i) = -1
  | 0 => by rw [Nat.add_zero, goN, if_pos h]
  | i + 1 => by
    have := goN_gone h i
    rw [← Nat.add_assoc, goN, this, if_pos (by decide)]
theorem goN_end {ss : List Ste} {word : List Int} {x0 : Int} {j n : Nat} (h : goN ss word x0 j < 0) (hj : j < n) : goN ss word x0 n = -1 := by
  obtain ⟨i, rfl⟩ : ∃ i, n = j + 1 + i := ⟨n - (j + 1), by omega⟩
  exact goN_gone h i
theorem next_of {s : Spc} (hv : spcB s = true) (X Y : Nat) (hX : X < s.states.length) (hY : Y < s.acts.length) : (teAt s.states X).2.length = s.acts.length ∧ -1 ≤ (teAt s.states X).2.getD Y 0 ∧ (teAt s.states X).2.getD Y 0 < s.states.length := by
  have h1 := ((spcB_iff s).1 hv).2.2.2 X hX
  unfold steB at h1
  rw [Bool.and_eq_true, nextB_iff] at h1
  obtain ⟨⟨h2, h3⟩, _⟩ := h1
  have := (okNext_iff _ _).1 (h3 Y (by omega))
  exact ⟨h2, this.1, this.2⟩

set_option maxHeartbeats 2000000 in
theorem RGo_any {w : World} {a : Option Addr} {n c : Nat} {b : Option Addr} {k d : Nat} {s : Spc} {wa : Option Addr} {wn wc : Nat} {word : List Int} (A : SpecArg w a n c b k d s) (hv : spcB s = true) (L : IntArg w wa wn wc word) (hw : ∀ j, j < word.length → 0 ≤ word.getD j 0 ∧ word.getD j 0 < s.acts.length) (x0 : Int) (h0 : -1 ≤ x0) (h1 : x0 < s.states.length) :
    Calls Tryz.prog 25 #[.agg #[.slice a n c, .slice b k d], .int .i64 x0, .slice wa wn wc] w fun e w' => e = .returned (.int .i64 (goN s.states word x0 word.length)) ∧ Below w.heap.size w w' := by
  have hB := (Below.refl w.heap.size w).alloc (Nat.le_refl _) (.cells #[.slice a n c, .slice b k d] 25)
  have HA := Lib.hid (A.below hB)
  have HL := Lib.hid (L.below hB)
  have HLL := Lib.hid L.len
  have HK := Lib.hid A.len
  have HV := Lib.hid hv
  have HWd := Lib.hid hw
  have hwn : wn ≤ 9223372036854775807 := L.big
  have hkb : k ≤ 140737488355328 := A.big
  have HBB := Lib.hid hB
  have H0 := Lib.hid h0
  have H1 := Lib.hid h1
  clear A hB L hv hw h0 h1
  go_enter Tryz.func25, Tryz.ntmps25
  go_wp2
  go_loop [1, 8, 11] (fun x _ i => ∃ j : Nat, ∃ g : Int, j ≤ wn ∧ i = .int .i64 j ∧ x = .int .i64 g ∧ Hid (goN s.states word x0 j = g) ∧ Hid (-1 ≤ g ∧ g < s.states.length)) (fun _ _ i => wn - (intOf i).toNat)
  case atStart => exact ⟨0, x0, Nat.zero_le _, rfl, rfl, Lib.hid rfl, Lib.hid ⟨H0.out, H1.out⟩⟩
  case round =>
    obtain ⟨j, g, hj, rfl, rfl, hg, hr⟩ := hrel
    by_cases hlt : j < wn
    · obtain ⟨bl, ol, rfl, c1⟩ := HL.out.cells j (by have := HLL.out; omega)
      have hwj := HWd.out j (by have := HLL.out; omega)
      obtain ⟨Y, hY⟩ : ∃ Y : Nat, word.getD j 0 = (Y : Int) := ⟨(word.getD j 0).toNat, by omega⟩
      have HY := Lib.hid hY
      rw [hY] at c1
      by_cases hgn : g < 0
      · have HE : Hid (goN s.states word x0 word.length = -1) := Lib.hid (goN_end (j := j) (by rw [hg.out]; exact hgn) (by have := HLL.out; omega))
        clear hY hwj
        go_wp2
        go_ret
        exact ⟨by rw [HE.out]; rfl, HBB.out⟩
      · obtain ⟨X, rfl⟩ : ∃ X : Nat, g = (X : Int) := ⟨g.toNat, by omega⟩
        have hX : X < s.states.length := by have := hr.out.2; omega
        obtain ⟨n1, n2, n3⟩ := next_of HV.out X Y hX (by omega)
        obtain ⟨bb, off, rfl, a1, m1, e1, a2, m2, e2, d1, d2, hN1, hN2⟩ := HA.out.rows X hX
        obtain ⟨bn, on, rfl, d3⟩ := hN2.arg.cells Y (by omega)
        obtain ⟨g2, HG2⟩ : ∃ z, Hid ((teAt s.states X).2.getD Y 0 = z) := ⟨_, Lib.hid rfl⟩
        rw [HG2.out] at d3 n2 n3
        have HN := Lib.hid (goN_next hg.out HY.out HG2.out)
        have HR : Hid (-1 ≤ g2 ∧ g2 < s.states.length) := Lib.hid ⟨n2, n3⟩
        have hm : Y < m2 := by have := hN2.arg.len; omega
        have hXk : X < k := by have := HK.out; omega
        have i1 : (X : Int) < (k : Int) := by omega
        have i2 : (0 : Int) ≤ (X : Int) := by omega
        have i3 : (Y : Int) < (m2 : Int) := by omega
        have i4 : (0 : Int) ≤ (Y : Int) := by omega
        clear hY hwj n1 n2 n3 hX hN1 hN2
        go_wp2
        go_round
        case rel => exact ⟨j + 1, g2, by omega, by go_num, rfl, HN, HR⟩
        case measure => simp [intOf]; omega
    · have HE : Hid (goN s.states word x0 word.length = g) := Lib.hid (by rw [show word.length = j by have := HLL.out; omega]; exact hg.out)
      go_wp2
      go_ret
      exact ⟨by rw [HE.out]; rfl, HBB.out⟩
end Go.Proofs.YtfggahkjjmfkiaaGreatDoor
/- spec.After. -/
namespace Go.Proofs.YtfggahkjjmfkiaaGreatDoor
open Go.RowKit Pl

/-- what spec.After answers -/
def aftS (s : Spc) (word : List Int) : Int × Bool × Int :=
  if spcB s = false then (0, false, 30) else if wordB s.acts.length word = false then (0, false, 1)
  else if goN s.states word 0 word.length < 0 then (0, false, 0) else (goN s.states word 0 word.length, true, 0)
theorem aftS_spec {s : Spc} {word : List Int} (h : spcB s = false) : aftS s word = (0, false, 30) := if_pos h
theorem aftS_arg {s : Spc} {word : List Int} (h : spcB s = true) (h1 : wordB s.acts.length word = false) : aftS s word = (0, false, 1) := by
  unfold aftS
  rw [h, if_neg (by decide), if_pos h1]
theorem aftS_none {s : Spc} {word : List Int} (h : spcB s = true) (h1 : wordB s.acts.length word = true) (h2 : goN s.states word 0 word.length < 0) : aftS s word = (0, false, 0) := by
  unfold aftS
  rw [h, h1, if_neg (by decide), if_neg (by decide), if_pos h2]
theorem aftS_some {s : Spc} {word : List Int} {g : Int} (h : spcB s = true) (h1 : wordB s.acts.length word = true) (h2 : goN s.states word 0 word.length = g) (h3 : 0 ≤ g) : aftS s word = (g, true, 0) := by
  unfold aftS
  rw [h, h1, if_neg (by decide), if_neg (by decide), h2, if_neg (by omega)]
theorem goN_end_at {ss : List Ste} {word : List Int} {x0 g : Int} {j n : Nat} (h : goN ss word x0 (j + 1) = g) (hg : g = -1) (hj : j < n) : goN ss word x0 n = -1 := by
  by_cases e : n = j + 1
  · rw [e, h, hg]
  · exact goN_end (j := j + 1) (by rw [h, hg]; decide) (by omega)
theorem word_in {n : Nat} {word : List Int} (h : wordB n word = true) : ∀ j, j < word.length → 0 ≤ word.getD j 0 ∧ word.getD j 0 < n := by
  unfold wordB at h
  rw [Bool.and_eq_true] at h
  exact (actsK_iff n word).1 h.2

set_option maxHeartbeats 4000000 in
theorem PAfter_any {w : World} {a : Option Addr} {n c : Nat} {b : Option Addr} {k d : Nat} {s : Spc} {wa : Option Addr} {wn wc : Nat} {word : List Int} {e0 e1 e2 : Addr} (E : Errs w e0 e1 e2) (A : SpecArg w a n c b k d s) (L : IntArg w wa wn wc word) :
    Calls Tryz.prog 26 #[.agg #[.slice a n c, .slice b k d], .slice wa wn wc] w fun e w' => e = .returned (.tuple #[.int .i64 (aftS s word).1, .bool (aftS s word).2.1, .int .i64 (aftS s word).2.2]) ∧ Below w.heap.size w w' := by
  have hB := (Below.refl w.heap.size w).alloc (Nat.le_refl _) (.cells #[.slice a n c, .slice b k d] 25)
  have hW := Whole.new w 25 #[.slice a n c, .slice b k d]
  have HC := Lib.hid (PCheck_any (E.below hB) (A.below hB))
  have HA := Lib.hid A
  have HL := Lib.hid L
  have HLL := Lib.hid L.len
  have HK := Lib.hid A.len
  have hwn : wn ≤ 9223372036854775807 := L.big
  have hkb : k ≤ 140737488355328 := A.big
  have hnb : n ≤ 140737488355328 := A.abig
  have HBB := Lib.hid hB
  have HW := Lib.hid hW
  clear A hB L hW E
  cases hv : spcB s
  · have HV := Lib.hid (aftS_spec (word := word) hv)
    rw [chkS_no hv] at HC
    clear hv
    go_enter Tryz.func26, Tryz.ntmps26
    go_wp2_with fail
    refine HC.out.mono ?_
    rintro e w1 ⟨rfl, hb1⟩
    go_wp2
    go_ret3
    exact ⟨by rw [HV.out]; rfl, HBB.out.trans (hb1.mono HBB.out.size)⟩
  · have HVv := Lib.hid hv
    rw [chkS_yes hv] at HC
    clear hv
    go_enter Tryz.func26, Tryz.ntmps26
    go_wp2_with fail
    refine HC.out.mono ?_
    rintro e w1 ⟨rfl, hb1⟩
    have x1 := HW.out.below hb1 HW.out.lt
    have k0 := x1.cell 0
    have k1 := x1.cell 1
    simp only [List.getElem?_toArray, List.getElem?_cons_succ, List.getElem?_cons_zero] at k0 k1
    have HB1 := Lib.hid (HBB.out.trans (hb1.mono HBB.out.size))
    have HI := Lib.hid (IsWord_any (w := w1) n (by omega) (HL.out.below HB1.out))
    clear hb1 x1
    cases hwd : wordB n word
    · have HV := Lib.hid (aftS_arg HVv.out (by rw [← HA.out.acts.len]; exact hwd))
      rw [hwd] at HI
      clear hwd
      go_wp2_with fail
      refine HI.out.mono ?_
      rintro e w2 ⟨rfl, rfl⟩
      go_wp2
      go_ret3
      exact ⟨by rw [HV.out]; rfl, HB1.out⟩
    · have HWd : Hid (wordB s.acts.length word = true) := Lib.hid (by rw [← HA.out.acts.len]; exact hwd)
      rw [hwd] at HI
      clear hwd
      go_wp2_with fail
      refine HI.out.mono ?_
      rintro e w2 ⟨rfl, rfl⟩
      have h500 := Lib.hid ((spcB_iff s).1 HVv.out).2.1
      go_wp2
      go_loop [7, 9, 21] (fun x _ i => ∃ j X : Nat, j ≤ wn ∧ i = .int .i64 j ∧ x = .int .i64 X ∧ Hid (goN s.states word 0 j = (X : Int)) ∧ Hid (X < s.states.length)) (fun _ _ i => wn - (intOf i).toNat)
      case atStart => exact ⟨0, 0, Nat.zero_le _, rfl, rfl, Lib.hid rfl, Lib.hid (by have := h500.out; omega)⟩
      case round =>
        obtain ⟨j, X, hj, rfl, rfl, hg, hr⟩ := hrel
        by_cases hlt : j < wn
        · obtain ⟨bl, ol, rfl, c1⟩ := (HL.out.below HB1.out).cells j (by have := HLL.out; omega)
          have hwj := word_in HWd.out j (by have := HLL.out; omega)
          obtain ⟨Y, hY⟩ : ∃ Y : Nat, word.getD j 0 = (Y : Int) := ⟨(word.getD j 0).toNat, by omega⟩
          have HY := Lib.hid hY
          rw [hY] at c1
          obtain ⟨n1, n2, n3⟩ := next_of HVv.out X Y hr.out (by omega)
          obtain ⟨bb, off, rfl, a1, m1, e1, a2, m2, e2, d1, d2, hN1, hN2⟩ := (HA.out.rows.below HB1.out) X hr.out
          obtain ⟨bn, on, rfl, d3⟩ := hN2.arg.cells Y (by omega)
          obtain ⟨g2, HG2⟩ : ∃ z, Hid ((teAt s.states X).2.getD Y 0 = z) := ⟨_, Lib.hid rfl⟩
          rw [HG2.out] at d3 n2 n3
          have HN := Lib.hid (goN_next hg.out HY.out HG2.out)
          have hm : Y < m2 := by have := hN2.arg.len; omega
          have hXk : X < k := by have := HK.out; have := hr.out; omega
          have i1 : (X : Int) < (k : Int) := by omega
          have i2 : (0 : Int) ≤ (X : Int) := by omega
          have i3 : (Y : Int) < (m2 : Int) := by omega
          have i4 : (0 : Int) ≤ (Y : Int) := by omega
          by_cases hg2 : g2 = -1
          · have HE := Lib.hid (aftS_none HVv.out HWd.out (by rw [goN_end_at HN.out hg2 (by have := HLL.out; omega)]; decide))
            have hq : (g2 == -1) = true := by rw [beq_iff_eq]; exact hg2
            clear hY hwj n1 n2 n3 hN1 hN2 hg2
            go_wp2
            go_ret3
            exact ⟨by rw [HE.out]; rfl, HB1.out⟩
          · have hq : (g2 == -1) = false := by rw [beq_eq_false_iff_ne]; exact hg2
            obtain ⟨X2, hX2⟩ : ∃ X2 : Nat, g2 = (X2 : Int) := ⟨g2.toNat, by omega⟩
            have HR : Hid (X2 < s.states.length) := Lib.hid (by omega)
            rw [hX2] at d3 hq
            have HN2 : Hid (goN s.states word 0 (j + 1) = (X2 : Int)) := Lib.hid (by rw [HN.out, hX2])
            clear hY hwj n1 n2 n3 hN1 hN2 hg2 hX2
            go_wp2
            go_round
            case rel => exact ⟨j + 1, X2, by omega, by go_num, rfl, HN2, HR⟩
            case measure => simp [intOf]; omega
        · have HE := Lib.hid (aftS_some HVv.out HWd.out (g := X) (by rw [show word.length = j by have := HLL.out; omega]; exact hg.out) (by omega))
          go_wp2
          go_ret3
          exact ⟨by rw [HE.out]; rfl, HB1.out⟩
end Go.Proofs.YtfggahkjjmfkiaaGreatDoor
/- SpecWords, given the contract of its awake: spec.After for any specification and list. -/
namespace Go.Proofs.YtfggahkjjmfkiaaGreatDoor
open Go.RowKit Pl

set_option maxRecDepth 100000 in
set_option maxHeartbeats 8000000 in
theorem SpecWords_aw {w : World} {a : Option Addr} {n c : Nat} {b : Option Addr} {k d : Nat} {s : Spc} {wa : Option Addr} {wn wc : Nat} {word : List Int} {e0 e1 e2 : Addr} (E : Errs w e0 e1 e2) (Aw : Hid (∀ W : World, Below w.heap.size w W → Calls Tryz.prog 14 #[] W fun e w' => e = .returned (.bool true) ∧ Below W.heap.size W w')) (A : SpecArg w a n c b k d s) (L : NumsArg w wa wn wc word) :
    Calls Tryz.prog 6 #[.agg #[.slice a n c, .slice b k d], .slice wa wn wc] w fun e w' => e = .returned (.bool true) ∧ Below w.heap.size w w' := by
  obtain ⟨i1, hi1, hz10, hz11, hz12⟩ := info_parts infoNumS
  have hB := (Below.refl w.heap.size w).alloc (Nat.le_refl _) (.cells #[.slice a n c, .slice b k d] 25)
  have hX := Whole.new w 25 #[.slice a n c, .slice b k d]
  have HX := Lib.hid hX
  have HB0 := Lib.hid hB
  have HF := Lib.hid (SFew_any 20000 (by decide) (A.below hB))
  have HA := Lib.hid A
  have HL := Lib.hid L
  have HE := Lib.hid E
  have hwn : wn ≤ 17592186044416 := L.few
  have hnb : n ≤ 140737488355328 := A.abig
  clear hB hX A L E
  cases hf : fewS s 20000
  · rw [hf] at HF
    go_enter Tryz.func6, Tryz.ntmps6
    go_wp2_with fail
    refine HF.out.mono ?_
    rintro e w1 ⟨rfl, hb1⟩
    have HB1 := Lib.hid (HB0.out.trans (hb1.mono HB0.out.size))
    clear hb1
    go_wp2_with fail
    refine (Aw.out _ HB1.out).mono ?_
    rintro e w3 ⟨rfl, hb3⟩
    have HB3 := Lib.hid (HB1.out.trans (hb3.mono HB1.out.size))
    clear hb3
    go_wp2
    go_ret
    exact ⟨rfl, HB3.out⟩
  · rw [hf] at HF
    have HQ : Hid (s.acts.length + s.states.length + totalS s.states ≤ 1000000) := Lib.hid (by have := (fewS_iff s 20000).1 hf; omega)
    clear hf
    cases hv : spcB s
    · have HV := Lib.hid hv
      have HAf := Lib.hid (aftS_spec (word := word) hv)
      clear hv
      go_enter Tryz.func6, Tryz.ntmps6
      go_wp2_with fail
      refine HF.out.mono ?_
      rintro e w1 ⟨rfl, hb1⟩
      have HB1 := Lib.hid (HB0.out.trans (hb1.mono HB0.out.size))
      have hx1 := HX.out.below hb1 HX.out.lt
      have k0 : w1.cell? ⟨w.heap.size, 0, none⟩ = some (.slice a n c) := hx1.cell 0
      have k1 : w1.cell? ⟨w.heap.size, 1, none⟩ = some (.slice b k d) := hx1.cell 1
      have HI := Lib.hid (RSIs_any (HA.out.below HB1.out))
      rw [HV.out] at HI
      clear hb1 hx1
      go_wp2_with fail
      refine HI.out.mono ?_
      rintro e w2 ⟨rfl, hb2⟩
      have HB2 := Lib.hid (HB1.out.trans (hb2.mono HB1.out.size))
      have k20 := up_cell hb2 k0
      have k21 := up_cell hb2 k1
      clear hb2
      have HB3 := HB2
      have k30 := k20
      have k31 := k21
      have HC := Lib.hid (SCopyA_any (HA.out.below HB3.out) HQ.out)
      go_wp2_with fail
      refine HC.out.mono ?_
      rintro e w4 ⟨a2, c2, b2, d2, rfl, hA2, hb4⟩
      have HB4 := Lib.hid (HB3.out.trans (hb4.mono HB3.out.size))
      have HL4 := Lib.hid (HL.out.below HB4.out)
      have HLc : Hid ((word.map (Value.int .i64)).length = wn * 1) := Lib.hid (by have := HL.out.arg.len; simp; omega)
      have HA2 := Lib.hid hA2
      clear hb4 hA2
      refine Hid.out ?_
      refine Lib.hid ?_
      go_wp2_with (at_builtin; (refine wpList_append_sz rfl (.const (.slice none 0 0)) (.tmp 32) 39 rfl w.heap.size 3 i1 (.int .i64 0) 1 8 Tryz.underlying39 hi1 hz10 hz11 hz12 rfl (by decide) (.slice none 0 0) rfl 0 [] (World.ownsRow_nil _ _ _ _) wa wn wc rfl (word.map (Value.int .i64)) HL4.out.arg.nils HLc.out (numsrc HL4.out.arg) (numone _) (by unfold maxLen; omega) (by omega) HB4.out.size ?_); intro va w5 hva hg5 hat5; refine Hid.out ?_)
      simp only [Nat.zero_add, List.nil_append] at hva
      have hb5 := below_up hg5
      have hva2 : NumO w5 w.heap.size va word := by unfold NumO; rw [← HL.out.arg.len]; exact hva
      obtain ⟨a5, c5, rfl, hN5⟩ := hva2.arg HL.out.fits.1 HL.out.fits.2
      have HB5 := Lib.hid (HB4.out.trans (hb5.mono HB4.out.size))
      have HP := Lib.hid (PAfter_any (HE.out.below HB5.out) (HA2.out.below hb5) hN5.arg)
      rw [HAf.out] at HP
      clear hva hg5 hat5 hb5 hva2 hN5
      refine Lib.hid ?_
      go_wp2_with fail
      refine HP.out.mono ?_
      rintro e w6 ⟨rfl, hb6⟩
      have HB6 := Lib.hid (HB5.out.trans (hb6.mono HB5.out.size))
      clear hb6
      go_wp2_with fail
      refine (Aw.out _ HB6.out).mono ?_
      rintro e w7 ⟨rfl, hb7⟩
      have HB7 := Lib.hid (HB6.out.trans (hb7.mono HB6.out.size))
      clear hb7
      go_wp2
      go_ret
      exact ⟨rfl, HB7.out⟩
    · have HV := Lib.hid hv
      cases hr : wordB n word
      · have HR := Lib.hid hr
        have HAf := Lib.hid (aftS_arg hv (by rw [← HA.out.acts.len]; exact hr))
        clear hv hr
        go_enter Tryz.func6, Tryz.ntmps6
        go_wp2_with fail
        refine HF.out.mono ?_
        rintro e w1 ⟨rfl, hb1⟩
        have HB1 := Lib.hid (HB0.out.trans (hb1.mono HB0.out.size))
        have hx1 := HX.out.below hb1 HX.out.lt
        have k0 : w1.cell? ⟨w.heap.size, 0, none⟩ = some (.slice a n c) := hx1.cell 0
        have k1 : w1.cell? ⟨w.heap.size, 1, none⟩ = some (.slice b k d) := hx1.cell 1
        have HI := Lib.hid (RSIs_any (HA.out.below HB1.out))
        rw [HV.out] at HI
        clear hb1 hx1
        go_wp2_with fail
        refine HI.out.mono ?_
        rintro e w2 ⟨rfl, hb2⟩
        have HB2 := Lib.hid (HB1.out.trans (hb2.mono HB1.out.size))
        have k20 := up_cell hb2 k0
        have k21 := up_cell hb2 k1
        clear hb2
        have HW := Lib.hid (RWord_any n (by omega) (HL.out.arg.below HB2.out))
        rw [HR.out] at HW
        go_wp2_with fail
        refine HW.out.mono ?_
        rintro e w3 ⟨rfl, rfl⟩
        have HB3 := HB2
        have k30 := k20
        have k31 := k21
        have HC := Lib.hid (SCopyA_any (HA.out.below HB3.out) HQ.out)
        go_wp2_with fail
        refine HC.out.mono ?_
        rintro e w4 ⟨a2, c2, b2, d2, rfl, hA2, hb4⟩
        have HB4 := Lib.hid (HB3.out.trans (hb4.mono HB3.out.size))
        have HL4 := Lib.hid (HL.out.below HB4.out)
        have HLc : Hid ((word.map (Value.int .i64)).length = wn * 1) := Lib.hid (by have := HL.out.arg.len; simp; omega)
        have HA2 := Lib.hid hA2
        clear hb4 hA2
        refine Hid.out ?_
        refine Lib.hid ?_
        go_wp2_with (at_builtin; (refine wpList_append_sz rfl (.const (.slice none 0 0)) (.tmp 32) 39 rfl w.heap.size 3 i1 (.int .i64 0) 1 8 Tryz.underlying39 hi1 hz10 hz11 hz12 rfl (by decide) (.slice none 0 0) rfl 0 [] (World.ownsRow_nil _ _ _ _) wa wn wc rfl (word.map (Value.int .i64)) HL4.out.arg.nils HLc.out (numsrc HL4.out.arg) (numone _) (by unfold maxLen; omega) (by omega) HB4.out.size ?_); intro va w5 hva hg5 hat5; refine Hid.out ?_)
        simp only [Nat.zero_add, List.nil_append] at hva
        have hb5 := below_up hg5
        have hva2 : NumO w5 w.heap.size va word := by unfold NumO; rw [← HL.out.arg.len]; exact hva
        obtain ⟨a5, c5, rfl, hN5⟩ := hva2.arg HL.out.fits.1 HL.out.fits.2
        have HB5 := Lib.hid (HB4.out.trans (hb5.mono HB4.out.size))
        have HP := Lib.hid (PAfter_any (HE.out.below HB5.out) (HA2.out.below hb5) hN5.arg)
        rw [HAf.out] at HP
        clear hva hg5 hat5 hb5 hva2 hN5
        refine Lib.hid ?_
        go_wp2_with fail
        refine HP.out.mono ?_
        rintro e w6 ⟨rfl, hb6⟩
        have HB6 := Lib.hid (HB5.out.trans (hb6.mono HB5.out.size))
        clear hb6
        go_wp2_with fail
        refine (Aw.out _ HB6.out).mono ?_
        rintro e w7 ⟨rfl, hb7⟩
        have HB7 := Lib.hid (HB6.out.trans (hb7.mono HB6.out.size))
        clear hb7
        go_wp2
        go_ret
        exact ⟨rfl, HB7.out⟩
      · have HR := Lib.hid hr
        obtain ⟨g, HGv⟩ : ∃ z, Hid (goN s.states word 0 word.length = z) := ⟨_, Lib.hid rfl⟩
        by_cases hg : g < 0
        · have HAf := Lib.hid (aftS_none hv (by rw [← HA.out.acts.len]; exact hr) (by rw [HGv.out]; exact hg))
          clear hv hr
          go_enter Tryz.func6, Tryz.ntmps6
          go_wp2_with fail
          refine HF.out.mono ?_
          rintro e w1 ⟨rfl, hb1⟩
          have HB1 := Lib.hid (HB0.out.trans (hb1.mono HB0.out.size))
          have hx1 := HX.out.below hb1 HX.out.lt
          have k0 : w1.cell? ⟨w.heap.size, 0, none⟩ = some (.slice a n c) := hx1.cell 0
          have k1 : w1.cell? ⟨w.heap.size, 1, none⟩ = some (.slice b k d) := hx1.cell 1
          have HI := Lib.hid (RSIs_any (HA.out.below HB1.out))
          rw [HV.out] at HI
          clear hb1 hx1
          go_wp2_with fail
          refine HI.out.mono ?_
          rintro e w2 ⟨rfl, hb2⟩
          have HB2 := Lib.hid (HB1.out.trans (hb2.mono HB1.out.size))
          have k20 := up_cell hb2 k0
          have k21 := up_cell hb2 k1
          clear hb2
          have HW := Lib.hid (RWord_any n (by omega) (HL.out.arg.below HB2.out))
          rw [HR.out] at HW
          go_wp2_with fail
          refine HW.out.mono ?_
          rintro e w3 ⟨rfl, rfl⟩
          have HG := Lib.hid (RGo_any (HA.out.below HB2.out) HV.out (HL.out.arg.below HB2.out) (word_in (by rw [← HA.out.acts.len]; exact HR.out)) 0 (by omega) (by have := ((spcB_iff s).1 HV.out).2.1; omega))
          rw [HGv.out] at HG
          go_wp2_with fail
          refine HG.out.mono ?_
          rintro e w3 ⟨rfl, hb3⟩
          have HB3 := Lib.hid (HB2.out.trans (hb3.mono HB2.out.size))
          have k30 := up_cell hb3 k20
          have k31 := up_cell hb3 k21
          clear hb3
          have HC := Lib.hid (SCopyA_any (HA.out.below HB3.out) HQ.out)
          go_wp2_with fail
          refine HC.out.mono ?_
          rintro e w4 ⟨a2, c2, b2, d2, rfl, hA2, hb4⟩
          have HB4 := Lib.hid (HB3.out.trans (hb4.mono HB3.out.size))
          have HL4 := Lib.hid (HL.out.below HB4.out)
          have HLc : Hid ((word.map (Value.int .i64)).length = wn * 1) := Lib.hid (by have := HL.out.arg.len; simp; omega)
          have HA2 := Lib.hid hA2
          clear hb4 hA2
          refine Hid.out ?_
          refine Lib.hid ?_
          go_wp2_with (at_builtin; (refine wpList_append_sz rfl (.const (.slice none 0 0)) (.tmp 32) 39 rfl w.heap.size 3 i1 (.int .i64 0) 1 8 Tryz.underlying39 hi1 hz10 hz11 hz12 rfl (by decide) (.slice none 0 0) rfl 0 [] (World.ownsRow_nil _ _ _ _) wa wn wc rfl (word.map (Value.int .i64)) HL4.out.arg.nils HLc.out (numsrc HL4.out.arg) (numone _) (by unfold maxLen; omega) (by omega) HB4.out.size ?_); intro va w5 hva hg5 hat5; refine Hid.out ?_)
          simp only [Nat.zero_add, List.nil_append] at hva
          have hb5 := below_up hg5
          have hva2 : NumO w5 w.heap.size va word := by unfold NumO; rw [← HL.out.arg.len]; exact hva
          obtain ⟨a5, c5, rfl, hN5⟩ := hva2.arg HL.out.fits.1 HL.out.fits.2
          have HB5 := Lib.hid (HB4.out.trans (hb5.mono HB4.out.size))
          have HP := Lib.hid (PAfter_any (HE.out.below HB5.out) (HA2.out.below hb5) hN5.arg)
          rw [HAf.out] at HP
          clear hva hg5 hat5 hb5 hva2 hN5
          refine Lib.hid ?_
          go_wp2_with fail
          refine HP.out.mono ?_
          rintro e w6 ⟨rfl, hb6⟩
          have HB6 := Lib.hid (HB5.out.trans (hb6.mono HB5.out.size))
          clear hb6
          go_wp2_with fail
          refine (Aw.out _ HB6.out).mono ?_
          rintro e w7 ⟨rfl, hb7⟩
          have HB7 := Lib.hid (HB6.out.trans (hb7.mono HB6.out.size))
          clear hb7
          go_wp2
          go_ret
          exact ⟨rfl, HB7.out⟩
        · have HAf := Lib.hid (aftS_some hv (by rw [← HA.out.acts.len]; exact hr) HGv.out (by omega))
          clear hv hr
          go_enter Tryz.func6, Tryz.ntmps6
          go_wp2_with fail
          refine HF.out.mono ?_
          rintro e w1 ⟨rfl, hb1⟩
          have HB1 := Lib.hid (HB0.out.trans (hb1.mono HB0.out.size))
          have hx1 := HX.out.below hb1 HX.out.lt
          have k0 : w1.cell? ⟨w.heap.size, 0, none⟩ = some (.slice a n c) := hx1.cell 0
          have k1 : w1.cell? ⟨w.heap.size, 1, none⟩ = some (.slice b k d) := hx1.cell 1
          have HI := Lib.hid (RSIs_any (HA.out.below HB1.out))
          rw [HV.out] at HI
          clear hb1 hx1
          go_wp2_with fail
          refine HI.out.mono ?_
          rintro e w2 ⟨rfl, hb2⟩
          have HB2 := Lib.hid (HB1.out.trans (hb2.mono HB1.out.size))
          have k20 := up_cell hb2 k0
          have k21 := up_cell hb2 k1
          clear hb2
          have HW := Lib.hid (RWord_any n (by omega) (HL.out.arg.below HB2.out))
          rw [HR.out] at HW
          go_wp2_with fail
          refine HW.out.mono ?_
          rintro e w3 ⟨rfl, rfl⟩
          have HG := Lib.hid (RGo_any (HA.out.below HB2.out) HV.out (HL.out.arg.below HB2.out) (word_in (by rw [← HA.out.acts.len]; exact HR.out)) 0 (by omega) (by have := ((spcB_iff s).1 HV.out).2.1; omega))
          rw [HGv.out] at HG
          go_wp2_with fail
          refine HG.out.mono ?_
          rintro e w3 ⟨rfl, hb3⟩
          have HB3 := Lib.hid (HB2.out.trans (hb3.mono HB2.out.size))
          have k30 := up_cell hb3 k20
          have k31 := up_cell hb3 k21
          clear hb3
          have HC := Lib.hid (SCopyA_any (HA.out.below HB3.out) HQ.out)
          go_wp2_with fail
          refine HC.out.mono ?_
          rintro e w4 ⟨a2, c2, b2, d2, rfl, hA2, hb4⟩
          have HB4 := Lib.hid (HB3.out.trans (hb4.mono HB3.out.size))
          have HL4 := Lib.hid (HL.out.below HB4.out)
          have HLc : Hid ((word.map (Value.int .i64)).length = wn * 1) := Lib.hid (by have := HL.out.arg.len; simp; omega)
          have HA2 := Lib.hid hA2
          clear hb4 hA2
          refine Hid.out ?_
          refine Lib.hid ?_
          go_wp2_with (at_builtin; (refine wpList_append_sz rfl (.const (.slice none 0 0)) (.tmp 32) 39 rfl w.heap.size 3 i1 (.int .i64 0) 1 8 Tryz.underlying39 hi1 hz10 hz11 hz12 rfl (by decide) (.slice none 0 0) rfl 0 [] (World.ownsRow_nil _ _ _ _) wa wn wc rfl (word.map (Value.int .i64)) HL4.out.arg.nils HLc.out (numsrc HL4.out.arg) (numone _) (by unfold maxLen; omega) (by omega) HB4.out.size ?_); intro va w5 hva hg5 hat5; refine Hid.out ?_)
          simp only [Nat.zero_add, List.nil_append] at hva
          have hb5 := below_up hg5
          have hva2 : NumO w5 w.heap.size va word := by unfold NumO; rw [← HL.out.arg.len]; exact hva
          obtain ⟨a5, c5, rfl, hN5⟩ := hva2.arg HL.out.fits.1 HL.out.fits.2
          have HB5 := Lib.hid (HB4.out.trans (hb5.mono HB4.out.size))
          have HP := Lib.hid (PAfter_any (HE.out.below HB5.out) (HA2.out.below hb5) hN5.arg)
          rw [HAf.out] at HP
          clear hva hg5 hat5 hb5 hva2 hN5
          refine Lib.hid ?_
          go_wp2_with fail
          refine HP.out.mono ?_
          rintro e w6 ⟨rfl, hb6⟩
          have HB6 := Lib.hid (HB5.out.trans (hb6.mono HB5.out.size))
          clear hb6
          go_wp2_with fail
          refine (Aw.out _ HB6.out).mono ?_
          rintro e w7 ⟨rfl, hb7⟩
          have HB7 := Lib.hid (HB6.out.trans (hb7.mono HB6.out.size))
          clear hb7
          go_wp2
          go_ret
          exact ⟨rfl, HB7.out⟩
end Go.Proofs.YtfggahkjjmfkiaaGreatDoor
