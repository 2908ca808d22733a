/- Texts joined: TText, SpText, SpSStr, SpRd, SpRd2, SpPState, SpPText, SpParse. -/
import Derived.Test.YtpmbijlldoiplaaGreatDoorJoinA
import Derived.Test.YtpmbijlldoiplaaGreatDoorCopy
import Derived.Deep.RegionHeld3
import Derived.Test.YtpmbijlldoiplaaGreatDoorPCheck
import Derived.Test.YtpmbijlldoiplaaGreatDoorParse
import Derived.Test.YtpmbijlldoiplaaGreatDoorSOwn
import Derived.Test.YtpmbijlldoiplaaGreatDoorSCopy
import Derived.Maps.Own
import Derived.Laws.OwnMore
import Derived.Test.YtpmbijlldoiplaaGreatDoorRep
import Derived.Lib.QuietBelow
/- terms.Text, as system.String calls it. -/
namespace Go.Proofs.YtpmbijlldoiplaaGreatDoor
open Go.RowKit Pl

/-- a call of strings.Join with blanks, at a row of the call's own that is not empty -/
theorem join_own {W : World} {base N : Nat} {v : Value} (x : ByteArray) (xs : List ByteArray) (h : W.ownsRow base 9 1 v N ((x :: xs).map Value.string)) (hN : N = xs.length + 1) (hN8 : N ≤ 1000000) (hl : (Lib.join ((x :: xs).map (·.data.toList)) [32]).length ≤ 140737488355328) :
    Calls Tryz.prog 111 #[v, .string ⟨#[32]⟩] W fun e w' => e = .returned (.string (mk (Lib.join ((x :: xs).map (·.data.toList)) [32]))) ∧ Below W.heap.size W w' := by
  rcases h.2 with ⟨rfl, h0⟩ | ⟨g, cap, cur, rfl, hg, hh, hn, hcap, hsz, ht⟩
  · omega
  · have hj := Tryz.strings_Join g 0 cap (x :: xs) ⟨#[32]⟩ W ?_ ?_ ?_ ?_ ?_
    · rw [List.length_cons, ← hN] at hj
      exact hj
    · intro j y hy
      have h9 := h.cells rfl j (.string y) (by rw [List.getElem?_map, hy]; rfl)
      rw [add_plainly, Nat.zero_add] at h9
      rw [Nat.zero_add]
      exact h9
    · exact (Array.getElem?_eq_some_iff.1 hh).1
    · rw [List.length_cons]; omega
    · rw [List.length_cons]; omega
    · exact hl
theorem join_head (kw : List UInt8) (acts : List ByteArray) : Lib.join ((mk kw :: acts).map (·.data.toList)) [32] = kw ++ acts.flatMap (fun a => [32] ++ a.data.toList) := by
  rw [List.map_cons, join_flat, List.flatMap_map]
  simp [mk]

/-- where Text stands behind x states -/
def textX (m : Syst) (x : Nat) : List UInt8 := strK m x
theorem textX_next (m : Syst) (x : Nat) : textX m (x + 1) = textX m x ++ ((Lib.decDigits x ++ [58] ++ (stAt m.states x).flatMap (edgeS m.acts)) ++ [10]) := strK_next m x
theorem textX_len {m : Syst} (h : sysB m = true) {x : Nat} (hx : x ≤ m.states.length) : (textX m x).length ≤ 20000000 := by
  have h0 := strK_len h x hx
  have h4 := total_take_le m.states x
  have := (sysB_iff m).1 h
  unfold textX
  omega

set_option maxRecDepth 100000 in
set_option maxHeartbeats 4000000 in
theorem TText_any {w : World} {a : Option Addr} {n c : Nat} {b : Option Addr} {k d : Nat} {m : Syst} {g : Nat} (kw : ByteArray) (hkw : kw = mk bSystem) (E : Env w) (A : SysArg w a n c b k d m) (hv : sysB m = true)
    (hg : Whole w g 25 #[.slice a n c, .slice b k d]) :
    Calls Tryz.prog 95 #[.string kw, .slice a n c, .slice b k d, .func (.func 96) #[] #[.pointer (some ⟨g, 0, none⟩)]] w fun e w' => e = .returned (.string (mk (strS m))) ∧ Below w.heap.size w w' := by
  obtain ⟨i0, hi, hz0, hz1, hz2⟩ := info_parts infoString
  have HA := Lib.hid A
  have HE := Lib.hid E
  have HS := Lib.hid hv
  have HG := Lib.hid hg
  have hs := (sysB_iff m).1 hv
  have hn8 : n ≤ 8 := by have := ((actsB_iff m.acts).1 hs.1).1; have := A.acts.len; omega
  have hk5 : k ≤ 5000 := by have := A.len; omega
  have HKW := Lib.hid hkw
  have hB1 := (Below.refl w.heap.size w).alloc (Nat.le_refl _) (.cells #[.pointer none, .slice none 0 0] 117)
  have hB2 := hB1.alloc (by simp) (.cells #[.string kw] 9)
  have hw0 := (Whole.new w 117 #[.pointer none, .slice none 0 0]).alloc (.cells #[.string kw] 9)
  have hlit := World.ownsRow_lit (base := w.heap.size) (e := 9) (size := 1) (w.alloc (.cells #[.pointer none, .slice none 0 0] 117)) #[.string kw] 1 (by simp) (by unfold maxLen; omega) rfl
  simp only [World.size_alloc] at hlit
  have HSrc := Lib.hid (strs_src (A.acts.below hB2))
  have HNil := Lib.hid A.acts.nils
  have HL : Hid ((m.acts.map Value.string).length = n * 1) := Lib.hid (by have := A.acts.len; simp; omega)
  have HB2 := Lib.hid hB2
  have HW0 := Lib.hid hw0
  have HLit := Lib.hid hlit
  clear hs A E hv hg hkw hB1 hB2 hw0 hlit
  go_enter Tryz.func95, Tryz.ntmps95
  go_wp2_with (at_builtin; (refine wpList_append_sz rfl (.tmp 13) (.tmp 14) 22 rfl w.heap.size 9 i0 (.string ⟨#[]⟩) 1 16 Tryz.underlying22 hi hz0 hz1 hz2 rfl (by decide) (.slice (some ⟨w.heap.size + 1, 0, none⟩) 1 1) rfl 1 [.string kw] HLit.out a n c rfl (m.acts.map Value.string) HNil.out HL.out HSrc.out (strs_one _) (by unfold maxLen; omega) (by omega) (by simp; omega) ?_); intro va w1 hva hg1 hat1; refine Hid.out ?_)
  refine Lib.hid ?_
  obtain ⟨aa, ca, rfl⟩ := own_slice hva
  have hb1 := HB2.out.grown hg1 (by simp; omega) (fun k hk => by simp [Value.ownBlock] at hk; omega)
  have x0 := HW0.out.grown hg1 (fun h => by simp [Value.ownBlock] at h)
  have HJ := Lib.hid (join_own (W := w1) kw m.acts (by have e : [Value.string kw] ++ m.acts.map Value.string = (kw :: m.acts).map Value.string := rfl; rw [← e]; exact hva) (by have := HA.out.acts.len; omega) (by omega) (by
    rw [HKW.out, join_head]
    have := headP_len ((sysB_iff m).1 HS.out).1 m.acts.length
    unfold headP at this
    rw [List.take_length] at this
    omega))
  have HBd := Lib.hid (bld_fresh x0)
  have HB1 := Lib.hid hb1
  have hzz1 := hb1.size
  have hx0l := x0.lt
  rw [HKW.out, join_head] at HJ
  clear hva hg1 hat1 hb1 x0
  obtain ⟨J, HJe⟩ : ∃ J, Hid (mk (bSystem ++ m.acts.flatMap (fun a => [32] ++ a.data.toList)) = J) := ⟨_, Lib.hid rfl⟩
  rw [HJe.out] at HJ
  have HJl : Hid (J.size ≤ 200) := Lib.hid (by
    rw [← HJe.out, mk_size']
    have := headP_len ((sysB_iff m).1 HS.out).1 m.acts.length
    unfold headP at this
    rwa [List.take_length] at this)
  have hJl := HJl.out
  have hnl : (⟨#[10]⟩ : ByteArray).size = 1 := rfl
  go_wp2_with fail
  refine HJ.out.mono ?_
  rintro e w2 ⟨rfl, hb2⟩
  have HWr := Lib.hid (write_any w.heap.size w.heap.size [] (J ++ (⟨#[10]⟩ : ByteArray)) w2 (HBd.out.up hb2) (by rw [ByteArray.size_append]; simp; omega) (Nat.le_trans hzz1 hb2.size))
  have HN0 : Hid ([] ++ (J ++ (⟨#[10]⟩ : ByteArray)).data.toList = textX m 0) := Lib.hid (by
    rw [← HJe.out]
    simp [ByteArray.data_append, mk, textX, strK, headS])
  rw [HN0.out] at HWr
  have HB2' := Lib.hid (HB1.out.trans (hb2.mono hzz1))
  clear hb2
  have hadd0 : ¬ 9223372036854775807 < J.size + 1 := by omega
  have hadd0' : ¬ 9223372036854775807 < J.size + (⟨#[10]⟩ : ByteArray).size := by omega
  go_wp2_with fail
  refine HWr.out.mono ?_
  rintro e w3 ⟨rfl, hB3, hb3, hk3⟩
  have HB3 := Lib.hid hB3
  have Hb3 := Lib.hid (HB2'.out.trans hb3)
  clear hB3 hb3 hk3 hadd0 hadd0'
  go_wp2
  go_loopw [10, 11, 21] (fun _ _ i wr => ∃ x : Nat, x ≤ k ∧ i = .int .i64 x ∧ Bld w.heap.size w.heap.size (textX m x) wr ∧ Below w.heap.size w wr) (fun _ _ i _ => k - (intOf i).toNat)
  case atStart => exact ⟨0, Nat.zero_le _, rfl, HB3.out, Hb3.out⟩
  case round =>
    obtain ⟨x, hx, rfl, hBx, hbx⟩ := hrel
    have HBx := Lib.hid hBx
    have Hbx := Lib.hid hbx
    have hzx := hbx.size
    clear hBx hbx
    by_cases hlt2 : x < k
    · obtain ⟨bx2, off2, rfl, ai, ni, ci, c0, hE⟩ := HA.out.rows x (by have := HA.out.len; omega)
      have c1 : wr.cell? ⟨bx2, off2 + x, none⟩ = some (.slice ai ni ci) := (Hbx.out.cell (lt_of_cell c0)).trans c0
      clear c0
      have HEd := Lib.hid hE
      clear hE
      have HI := Lib.hid (itoa_any x (by omega) wr (HE.out.below Hbx.out))
      obtain ⟨D, HD⟩ : ∃ D, Hid (mk (Lib.decDigits x) = D) := ⟨_, Lib.hid rfl⟩
      rw [HD.out] at HI
      have hD : D.size ≤ 21 := by rw [← HD.out, mk_size']; exact dec_length x (by omega)
      have hcol : (⟨#[58]⟩ : ByteArray).size = 1 := rfl
      obtain ⟨Ls, HLs⟩ : ∃ Ls, Hid (mk ((stAt m.states x).flatMap (edgeS m.acts)) = Ls) := ⟨_, Lib.hid rfl⟩
      have hLs : Ls.size ≤ 17200000 := by
        rw [← HLs.out, mk_size', ← lineS_all]
        exact lineS_len HS.out (by have := HA.out.len; omega) _
      have HN : Hid (textX m x ++ (D ++ (⟨#[58]⟩ : ByteArray) ++ Ls ++ (⟨#[10]⟩ : ByteArray)).data.toList = textX m (x + 1)) := Lib.hid (by
        rw [textX_next, ← HD.out, ← HLs.out]
        simp [ByteArray.data_append, mk])
      have hTl := textX_len HS.out (x := x) (by have := HA.out.len; omega)
      have hadd1 : ¬ 9223372036854775807 < D.size + 1 := by omega
      have hadd2 : ¬ 9223372036854775807 < D.size + (⟨#[58]⟩ : ByteArray).size := by omega
      have hadd3 : ¬ 9223372036854775807 < (D ++ (⟨#[58]⟩ : ByteArray)).size + Ls.size := by rw [ByteArray.size_append]; omega
      have hadd4 : ¬ 9223372036854775807 < (D ++ (⟨#[58]⟩ : ByteArray) ++ Ls).size + 1 := by rw [ByteArray.size_append, ByteArray.size_append]; omega
      have hadd5 : ¬ 9223372036854775807 < (D ++ (⟨#[58]⟩ : ByteArray) ++ Ls).size + (⟨#[10]⟩ : ByteArray).size := by rw [ByteArray.size_append, ByteArray.size_append]; omega
      have hadd6 : ¬ 9223372036854775807 < D.size + 1 + Ls.size := by omega
      have hadd7 : ¬ 9223372036854775807 < D.size + 1 + Ls.size + 1 := by omega
      go_wp2_with fail
      refine HI.out.mono ?_
      rintro e wI ⟨rfl, hbI⟩
      have hzI := hbI.size
      have HTI := Lib.hid (Hbx.out.trans (hbI.mono hzx))
      have HLi := line_any (x := x) (HE.out.below HTI.out) (HA.out.below HTI.out) HS.out (HG.out.below HTI.out HG.out.lt) (by have := HA.out.len; omega) (HEd.out.below HTI.out)
      rw [HLs.out] at HLi
      have HLi := Lib.hid HLi
      have HbI := Lib.hid hbI
      clear hbI
      go_wp2_with fail
      refine HLi.out.mono ?_
      rintro e wL ⟨rfl, hbL⟩
      have hzL := hbL.size
      have HWr2 := Lib.hid (write_any w.heap.size w.heap.size (textX m x) (D ++ (⟨#[58]⟩ : ByteArray) ++ Ls ++ (⟨#[10]⟩ : ByteArray)) wL ((HBx.out.up HbI.out).up hbL) (by simp only [ByteArray.size_append]; omega) (by omega))
      rw [HN.out] at HWr2
      have HTL := Lib.hid (HTI.out.trans (hbL.mono HTI.out.size))
      clear hbL
      go_wp2_with fail
      refine HWr2.out.mono ?_
      rintro e wW ⟨rfl, hBW, hbW, hkW⟩
      have HBW := Lib.hid hBW
      have HbW := Lib.hid (HTL.out.trans hbW)
      clear hBW hbW hkW hadd1 hadd2 hadd3 hadd4 hadd5 hadd6 hadd7
      go_wp2
      go_roundw
      case rel => exact ⟨x + 1, by omega, by go_num, HBW.out, HbW.out⟩
      case measure => simp [intOf]; omega
    · have HN4 : Hid (textX m x = strS m) := Lib.hid (by
        have h3 : x = m.states.length := by have := HA.out.len; omega
        rw [h3]; rfl)
      have hBx := HBx.out
      rw [HN4.out] at hBx
      have HSt := Lib.hid (bstr_any w.heap.size w.heap.size (strS m) wr hBx hzx)
      clear hBx
      go_wp2_with fail
      refine HSt.out.mono ?_
      rintro e w7 ⟨rfl, hb7⟩
      go_wp2
      go_ret
      exact ⟨rfl, Hbx.out.trans hb7⟩
end Go.Proofs.YtpmbijlldoiplaaGreatDoor
/- terms.Text, as spec.String calls it. -/
namespace Go.Proofs.YtpmbijlldoiplaaGreatDoor
open Go.RowKit Pl

/-- where Text stands behind x states -/
def textY (s : Spc) (x : Nat) : List UInt8 := objK bSpec s.acts (s.states.map (steW s.acts)) x
theorem words_at (s : Spc) {x : Nat} (hx : x < s.states.length) : (s.states.map (steW s.acts)).getD x [] = steW s.acts (teAt s.states x) := by
  unfold teAt
  rw [List.getD_eq_getElem?_getD, List.getElem?_map, List.getElem?_eq_getElem hx, List.getD_eq_getElem?_getD, List.getElem?_eq_getElem hx]
  rfl
theorem textY_next (s : Spc) {x : Nat} (hx : x < s.states.length) : textY s (x + 1) = textY s x ++ ((Lib.decDigits x ++ [58] ++ blanks (steW s.acts (teAt s.states x))) ++ [10]) := by
  unfold textY
  rw [objK_next, words_at s hx]
  rfl
theorem headL_len {acts : List ByteArray} (ha : actsB acts = true) : (headL bSpec acts).length ≤ 200 := by
  have h3 := heads_len (acts := acts) (fun a h => acts_len ha a h)
  have h2 := ((actsB_iff acts).1 ha).1
  unfold headL
  simp only [List.length_append, bSpec, List.length_cons, List.length_nil] at h3 ⊢
  omega
theorem textY_len {s : Spc} (hv : spcB s = true) (h : ∀ i, i < s.states.length → ∀ z ∈ (teAt s.states i).1, z ≤ 9223372036854775807) : ∀ x, x ≤ s.states.length → (textY s x).length ≤ 201 + 60023 * x
  | 0, _ => by
    have := headL_len ((spcB_iff s).1 hv).1
    simp [textY, objK]; omega
  | x + 1, hx => by
    have ih := textY_len hv h x (by omega)
    have h5 := ((spcB_iff s).1 hv).2.2.1
    have h1 := (steLine_of hv (x := x) (by omega) (h x (by omega))).b (Nat.le_refl _)
    rw [lineB_all] at h1
    have h2 := dec_length x (by omega)
    rw [textY_next s (by omega)]
    simp only [List.length_append, List.length_cons, List.length_nil]
    omega

theorem pack_s {w : World} {g : Nat} {t : TypeId} {x y : Value} (h : Whole w g t #[x, y]) : Whole w g t #[x, y] ∧ w.cell? ⟨g, 0, none⟩ = some x ∧ w.cell? ⟨g, 1, none⟩ = some y := ⟨h, h.cell 0, h.cell 1⟩
set_option maxRecDepth 100000 in
set_option maxHeartbeats 4000000 in
theorem SpText_any {w : World} {a : Option Addr} {n c : Nat} {b : Option Addr} {k d : Nat} {s : Spc} {g : Nat} (kw : ByteArray) (hkw : kw = mk bSpec) (E : Env w) (T : Tab w) (A : SpecArg w a n c b k d s) (hv : spcB s = true)
    (hg : Whole w g 40 #[.slice a n c, .slice b k d]) :
    Calls Tryz.prog 65 #[.string kw, .slice a n c, .slice b k d, .func (.func 66) #[] #[.pointer (some ⟨g, 0, none⟩)]] w fun e w' => e = .returned (.string (mk (strSp s))) ∧ Below w.heap.size w w' := by
  obtain ⟨i0, hi, hz0, hz1, hz2⟩ := info_parts infoString
  have HA := Lib.hid A
  have HE := Lib.hid E
  have HS := Lib.hid hv
  have HTb := Lib.hid T
  have HRg : Hid (∀ i, i < s.states.length → ∀ z ∈ (teAt s.states i).1, z ≤ 9223372036854775807) := Lib.hid fun i hi => by
    obtain ⟨_, _, _, _, _, _, _, _, _, _, _, h1, _⟩ := A.rows i hi
    exact h1.le
  have HG := Lib.hid hg
  have hs := (spcB_iff s).1 hv
  have hn8 : n ≤ 8 := by have := ((actsB_iff s.acts).1 hs.1).1; have := A.acts.len; omega
  have hk5 : k ≤ 500 := by have := A.len; omega
  have HKW := Lib.hid hkw
  have hB1 := (Below.refl w.heap.size w).alloc (Nat.le_refl _) (.cells #[.pointer none, .slice none 0 0] 117)
  have hB2 := hB1.alloc (by simp) (.cells #[.string kw] 9)
  have hw0 := (Whole.new w 117 #[.pointer none, .slice none 0 0]).alloc (.cells #[.string kw] 9)
  have hlit := World.ownsRow_lit (base := w.heap.size) (e := 9) (size := 1) (w.alloc (.cells #[.pointer none, .slice none 0 0] 117)) #[.string kw] 1 (by simp) (by unfold maxLen; omega) rfl
  simp only [World.size_alloc] at hlit
  have HSrc := Lib.hid (strs_src (A.acts.below hB2))
  have HNil := Lib.hid A.acts.nils
  have HL : Hid ((s.acts.map Value.string).length = n * 1) := Lib.hid (by have := A.acts.len; simp; omega)
  have HB2 := Lib.hid hB2
  have HW0 := Lib.hid hw0
  have HLit := Lib.hid hlit
  clear hs A E T hv hg hkw hB1 hB2 hw0 hlit
  go_enter Tryz.func65, Tryz.ntmps65
  go_wp2_with (at_builtin; (refine wpList_append_sz rfl (.tmp 13) (.tmp 14) 22 rfl w.heap.size 9 i0 (.string ⟨#[]⟩) 1 16 Tryz.underlying22 hi hz0 hz1 hz2 rfl (by decide) (.slice (some ⟨w.heap.size + 1, 0, none⟩) 1 1) rfl 1 [.string kw] HLit.out a n c rfl (s.acts.map Value.string) HNil.out HL.out HSrc.out (strs_one _) (by unfold maxLen; omega) (by omega) (by simp; omega) ?_); intro va w1 hva hg1 hat1; refine Hid.out ?_)
  refine Lib.hid ?_
  obtain ⟨aa, ca, rfl⟩ := own_slice hva
  have hb1 := HB2.out.grown hg1 (by simp; omega) (fun k hk => by simp [Value.ownBlock] at hk; omega)
  have x0 := HW0.out.grown hg1 (fun h => by simp [Value.ownBlock] at h)
  have HJ := Lib.hid (join_own (W := w1) kw s.acts (by have e : [Value.string kw] ++ s.acts.map Value.string = (kw :: s.acts).map Value.string := rfl; rw [← e]; exact hva) (by have := HA.out.acts.len; omega) (by omega) (by
    rw [HKW.out, join_head]
    have := headL_len ((spcB_iff s).1 HS.out).1
    unfold headL at this
    omega))
  have HBd := Lib.hid (bld_fresh x0)
  have HB1 := Lib.hid hb1
  have hzz1 := hb1.size
  have hx0l := x0.lt
  rw [HKW.out, join_head] at HJ
  clear hva hg1 hat1 hb1 x0
  obtain ⟨J, HJe⟩ : ∃ J, Hid (mk (bSpec ++ s.acts.flatMap (fun a => [32] ++ a.data.toList)) = J) := ⟨_, Lib.hid rfl⟩
  rw [HJe.out] at HJ
  have HJl : Hid (J.size ≤ 200) := Lib.hid (by
    rw [← HJe.out, mk_size']
    have := headL_len ((spcB_iff s).1 HS.out).1
    unfold headL at this
    exact this)
  have hJl := HJl.out
  have hnl : (⟨#[10]⟩ : ByteArray).size = 1 := rfl
  go_wp2_with fail
  refine HJ.out.mono ?_
  rintro e w2 ⟨rfl, hb2⟩
  have HWr := Lib.hid (write_any w.heap.size w.heap.size [] (J ++ (⟨#[10]⟩ : ByteArray)) w2 (HBd.out.up hb2) (by rw [ByteArray.size_append]; simp; omega) (Nat.le_trans hzz1 hb2.size))
  have HN0 : Hid ([] ++ (J ++ (⟨#[10]⟩ : ByteArray)).data.toList = textY s 0) := Lib.hid (by
    rw [← HJe.out]
    simp [ByteArray.data_append, mk, textY, objK, headL])
  rw [HN0.out] at HWr
  have HB2' := Lib.hid (HB1.out.trans (hb2.mono hzz1))
  clear hb2
  have hadd0 : ¬ 9223372036854775807 < J.size + 1 := by omega
  have hadd0' : ¬ 9223372036854775807 < J.size + (⟨#[10]⟩ : ByteArray).size := by omega
  go_wp2_with fail
  refine HWr.out.mono ?_
  rintro e w3 ⟨rfl, hB3, hb3, hk3⟩
  have HB3 := Lib.hid hB3
  have Hb3 := Lib.hid (HB2'.out.trans hb3)
  clear hB3 hb3 hk3 hadd0 hadd0'
  go_wp2
  go_loopw [10, 11, 21] (fun _ _ i wr => ∃ x : Nat, x ≤ k ∧ i = .int .i64 x ∧ Bld w.heap.size w.heap.size (textY s x) wr ∧ Below w.heap.size w wr) (fun _ _ i _ => k - (intOf i).toNat)
  case atStart => exact ⟨0, Nat.zero_le _, rfl, HB3.out, Hb3.out⟩
  case round =>
    obtain ⟨x, hx, rfl, hBx, hbx⟩ := hrel
    have HBx := Lib.hid hBx
    have Hbx := Lib.hid hbx
    have hzx := hbx.size
    clear hBx hbx
    by_cases hlt2 : x < k
    · obtain ⟨bx2, off2, rfl, a1, n1, c1, a2, n2, c2, d1, d2, hN1, hN2⟩ := HA.out.rows x (by have := HA.out.len; omega)
      have e1 : wr.cell? ⟨bx2, off2 + x * 2, none⟩ = some (.slice a1 n1 c1) := (Hbx.out.cell (lt_of_cell d1)).trans d1
      have e2 : wr.cell? ⟨bx2, off2 + x * 2 + 1, none⟩ = some (.slice a2 n2 c2) := (Hbx.out.cell (lt_of_cell d2)).trans d2
      have HN1 := Lib.hid hN1
      have HN2 := Lib.hid hN2
      clear d1 d2 hN1 hN2
      have hxk : x < s.states.length := by have := HA.out.len; omega
      have HI := Lib.hid (fun (W : World) (hb : Below wr.heap.size wr W) => itoa_any x (by omega) W ((HE.out.below Hbx.out).below hb))
      obtain ⟨D, HD⟩ : ∃ D, Hid (mk (Lib.decDigits x) = D) := ⟨_, Lib.hid rfl⟩
      rw [HD.out] at HI
      have hD : D.size ≤ 21 := by rw [← HD.out, mk_size']; exact dec_length x (by omega)
      have hcol : (⟨#[58]⟩ : ByteArray).size = 1 := rfl
      have HLi := fun (W : World) (hb : Below wr.heap.size wr W) => spLine_any (x := x) ((HE.out.below Hbx.out).below hb) ((HTb.out.below Hbx.out).below hb) ((HA.out.below Hbx.out).below hb) HS.out ((HG.out.below Hbx.out HG.out.lt).below hb (Nat.lt_of_lt_of_le HG.out.lt hzx)) hxk ((HN1.out.below Hbx.out).below hb) ((HN2.out.below Hbx.out).below hb)
      obtain ⟨Ls, HLs⟩ : ∃ Ls, Hid (mk (blanks (steW s.acts (teAt s.states x))) = Ls) := ⟨_, Lib.hid rfl⟩
      rw [HLs.out] at HLi
      have HLi := Lib.hid HLi
      have hLs : Ls.size ≤ 60000 := by
        rw [← HLs.out, mk_size', ← lineB_all]
        exact (steLine_of HS.out hxk (HRg.out x hxk)).b (Nat.le_refl _)
      have HN : Hid (textY s x ++ (D ++ (⟨#[58]⟩ : ByteArray) ++ Ls ++ (⟨#[10]⟩ : ByteArray)).data.toList = textY s (x + 1)) := Lib.hid (by
        rw [textY_next s hxk, ← HD.out, ← HLs.out]
        simp [ByteArray.data_append, mk])
      have HTl := Lib.hid (textY_len HS.out HRg.out x (by omega))
      have hadd1 : ¬ 9223372036854775807 < D.size + 1 := by omega
      have hadd2 : ¬ 9223372036854775807 < D.size + (⟨#[58]⟩ : ByteArray).size := by omega
      have hadd3 : ¬ 9223372036854775807 < (D ++ (⟨#[58]⟩ : ByteArray)).size + Ls.size := by rw [ByteArray.size_append]; omega
      have hadd4 : ¬ 9223372036854775807 < (D ++ (⟨#[58]⟩ : ByteArray) ++ Ls).size + 1 := by rw [ByteArray.size_append, ByteArray.size_append]; omega
      have hadd5 : ¬ 9223372036854775807 < (D ++ (⟨#[58]⟩ : ByteArray) ++ Ls).size + (⟨#[10]⟩ : ByteArray).size := by rw [ByteArray.size_append, ByteArray.size_append]; omega
      have hadd6 : ¬ 9223372036854775807 < D.size + 1 + Ls.size := by omega
      have hadd7 : ¬ 9223372036854775807 < D.size + 1 + Ls.size + 1 := by omega
      have hne : wr.heap.size ≠ w.heap.size := by have := bld_lt HBx.out; omega
      have hx0 : (0 : Int) ≤ (x : Int) := by omega
      have hx1 : (x : Int) < (k : Int) := by omega
      go_wp2
      go_region_held3 (fun w' => Whole w' wr.heap.size 101 #[.slice a1 n1 c1, .slice a2 n2 c2] ∧ w'.cell? ⟨wr.heap.size, 0, none⟩ = some (.slice a1 n1 c1) ∧ w'.cell? ⟨wr.heap.size, 1, none⟩ = some (.slice a2 n2 c2))
        ((refine pack_s ?_ <;> first | assumption | exact Whole.new _ _ _ | go_keep))
        (first
          | (go_at_call 68; (refine (write_any w.heap.size w.heap.size (textY s x) (D ++ (⟨#[58]⟩ : ByteArray) ++ Ls ++ (⟨#[10]⟩ : ByteArray)) _ (up_bld hbL (up_bld hWI HBx.out)) ?_ ?_).mono ?_; (simp only [ByteArray.size_append]; have := HTl.out; have : (⟨#[10]⟩ : ByteArray).size = 1 := rfl; omega); (have := hWI.size; have := hbL.size; omega); rw [HN.out]; rintro e wW ⟨rfl, hBW, hbW, hkW⟩; have kW0 := hkW wr.heap.size _ _ hne (by decide) kL0))
          | (go_at_call 66; (refine (HLi.out _ hWI).mono ?_; rintro e wL ⟨rfl, hbL⟩; have kL0 := up_whole hbL kI0))
          | (go_at_call 69; (refine (HI.out _ ?_).mono ?_; (first | exact ((Below.refl _ wr).alloc (Nat.le_refl _) _).drew | exact ((Below.refl _ wr).alloc (Nat.le_refl _) _)); rintro e wI ⟨rfl, hbI⟩; have kI0 := up_whole hbI (show Whole _ wr.heap.size 101 #[.slice a1 n1 c1, .slice a2 n2 c2] from Whole.new wr _ _); have hWI : Below wr.heap.size wr wI := by (first | exact below_two ((Below.refl _ wr).alloc (Nat.le_refl _) (.cells #[.slice a1 n1 c1, .slice a2 n2 c2] 101)) hbI | exact below_two ((Below.refl _ wr).alloc (Nat.le_refl _) (.cells #[.slice a1 n1 c1, .slice a2 n2 c2] 101)).drew hbI))))
      have HF := Lib.hid (((Hbx.out.trans (hWI.mono hzx)).trans (hbL.mono (Nat.le_trans hzx hWI.size))).trans hbW)
      have HBW := Lib.hid hBW
      clear hBW hbW hkW hadd1 hadd2 hadd3 hadd4 hadd5 hadd6 hadd7
      go_wp2
      go_roundw
      case rel => exact ⟨x + 1, by omega, by go_num, HBW.out, HF.out⟩
      case measure => simp [intOf]; omega
    · have HN4 : Hid (textY s x = strSp s) := Lib.hid (by
        have h3 : x = s.states.length := by have := HA.out.len; omega
        rw [h3]; unfold textY strSp objS; rw [List.length_map])
      have hBx := HBx.out
      rw [HN4.out] at hBx
      have HSt := Lib.hid (bstr_any w.heap.size w.heap.size (strSp s) wr hBx hzx)
      clear hBx
      go_wp2_with fail
      refine HSt.out.mono ?_
      rintro e w7 ⟨rfl, hb7⟩
      go_wp2
      go_ret
      exact ⟨rfl, Hbx.out.trans hb7⟩
end Go.Proofs.YtpmbijlldoiplaaGreatDoor
/- spec.String. -/
namespace Go.Proofs.YtpmbijlldoiplaaGreatDoor
open Go.RowKit Pl

def spStrV (s : Spc) : Value := if spcB s = true then .tuple #[.string (mk (strSp s)), .int .i64 0] else .tuple #[.string ⟨#[]⟩, .int .i64 30]
theorem spStrV_no {s : Spc} (h : spcB s = false) : spStrV s = .tuple #[.string ⟨#[]⟩, .int .i64 30] := by unfold spStrV; rw [h]; rfl
theorem spStrV_yes {s : Spc} (h : spcB s = true) : spStrV s = .tuple #[.string (mk (strSp s)), .int .i64 0] := if_pos h
set_option maxRecDepth 100000 in
set_option maxHeartbeats 4000000 in
theorem SpString_any {w : World} {a : Option Addr} {n c : Nat} {b : Option Addr} {k d : Nat} {s : Spc} (E : Env w) (T : Tab w) (A : SpecArg w a n c b k d s) :
    Calls Tryz.prog 21 #[.agg #[.slice a n c, .slice b k d]] w fun e w' => e = .returned (spStrV s) ∧ Below w.heap.size w w' := by
  have hB := (Below.refl w.heap.size w).alloc (Nat.le_refl _) (.cells #[.slice a n c, .slice b k d] 40)
  have HA := Lib.hid A
  have HE := Lib.hid E
  have HTb := Lib.hid T
  have hw := Whole.new w 40 #[.slice a n c, .slice b k d]
  obtain ⟨e0, e1, e2, hE⟩ := E.errs
  have HC := Lib.hid (PCheck_any (hE.below hB) (A.below hB))
  have HBB := Lib.hid hB
  have HW := Lib.hid hw
  clear A hB E T hE hw
  have hmf : ∀ (fn : Fn) (first cap : Array Value) (w : World), (Instr.makeFunc fn first cap).run Tryz.prog w = .ok (.func fn first cap) w := fun _ _ _ _ => rfl
  cases hv : spcB s
  · have HV := Lib.hid (spStrV_no hv)
    rw [chkS_no hv] at HC
    clear hv
    go_enter Tryz.func21, Tryz.ntmps21
    go_wp2_with fail
    refine HC.out.mono ?_
    rintro e w1 ⟨rfl, hb1⟩
    go_wp2
    go_ret2
    exact ⟨by rw [HV.out]; rfl, HBB.out.trans (hb1.mono HBB.out.size)⟩
  · have HV := Lib.hid (spStrV_yes hv)
    rw [chkS_yes hv] at HC
    have HS := Lib.hid hv
    clear hv
    go_enter Tryz.func21, Tryz.ntmps21
    go_wp2_with fail
    refine HC.out.mono ?_
    rintro e w1 ⟨rfl, hb1⟩
    have hb0 := HBB.out.trans (hb1.mono HBB.out.size)
    have hw1 := HW.out.below hb1 HW.out.lt
    have q0 := hw1.cell 0
    have q1 := hw1.cell 1
    have HT := Lib.hid (SpText_any ⟨#[115, 112, 101, 99]⟩ rfl (HE.out.below hb0) (HTb.out.below hb0) (HA.out.below hb0) HS.out hw1)
    have HB0 := Lib.hid hb0
    simp only [List.getElem?_toArray, List.getElem?_cons_succ, List.getElem?_cons_zero] at q0 q1
    clear hb0 hb1 hw1
    go_wp2_with fail
    refine HT.out.mono ?_
    rintro e w2 ⟨rfl, hb2⟩
    go_wp2
    go_ret2
    exact ⟨by rw [HV.out]; rfl, HB0.out.trans (hb2.mono HB0.out.size)⟩
end Go.Proofs.YtpmbijlldoiplaaGreatDoor
/- The readers of a state: the table, and what each reads. -/
namespace Go.Proofs.YtpmbijlldoiplaaGreatDoor
open Go.RowKit Pl

/-! ### a table of functions -/
theorem upd_new {P : Program} {w : World} {mty kt et : TypeId} {K : IntKind} {r clock : Nat} {es : Array MapEntry} {k : Int} {val : Value} (hm : P.underlying mty = some (.map kt et)) (hk : P.underlying kt = some (.int K)) (hb : w.heap[r]? = some (.map es clock))
    (hf : Instr.findNow (.int K) (.int K k) es.toList 0 = some none) :
    (Instr.mapUpdate mty (.map (some r)) (.int K k) val).run P w = .ok () { w with heap := w.heap.setIfInBounds r (.map (es.push { key := .int K k, val := val, born := clock }) (clock + 1)) } := by
  have hc : (Instr.checkKey false 10000 kt (.int K k)).run P w = .ok () w := MapKept.run_checkKey (k := .int K k) hk (by simp [MapKept.IsKey]) false 9999
  simp [Instr.mapUpdate, run_underlying hm, MapKept.run_getObj_map hb, hc, MapKept.run_findKey hk hf, MapKept.run_setObj_map _ hb, Result.andThen]
theorem look_hit {P : Program} {w : World} {mty kt et : TypeId} {K : IntKind} {r clock i : Nat} {es : Array MapEntry} {k : Int} {val : Value} (hm : P.underlying mty = some (.map kt et)) (hk : P.underlying kt = some (.int K)) (hb : w.heap[r]? = some (.map es clock))
    (hf : Instr.findNow (.int K) (.int K k) es.toList 0 = some (some (i, val))) : (Instr.lookup mty (.map (some r)) (.int K k) false).run P w = .ok val w := by
  have hc : (Instr.checkKey es.isEmpty 10000 kt (.int K k)).run P w = .ok () w := MapKept.run_checkKey (k := .int K k) hk (by simp [MapKept.IsKey]) _ 9999
  simp [Instr.lookup, run_underlying hm, MapKept.run_getObj_map hb, hc, MapKept.run_findKey hk hf, Result.andThen]
theorem below_heap {B r : Nat} {w0 w : World} {o : Obj} (hb : Below B w0 w) (hr : B ≤ r) : Below B w0 { w with heap := w.heap.setIfInBounds r o } :=
  ⟨hb.os, hb.tape, hb.output, by simpa using hb.size, fun k hk => by
    have := hb.block k hk
    rw [← this]
    show (w.heap.setIfInBounds r o)[k]? = w.heap[k]?
    rw [Array.getElem?_setIfInBounds, if_neg (by omega)]⟩
def rdE (k : Int) (f b : Nat) : MapEntry := { key := .int .i64 k, val := .func (.func f) #[] #[], born := b }
/-- the table of the readers -/
def rdTab : Array MapEntry := #[rdE 0 148 0, rdE 1 149 1, rdE 2 150 2]

set_option maxRecDepth 100000 in
set_option maxHeartbeats 400000 in
theorem readers_any (w : World) : Calls Tryz.prog 120 #[] w fun e w' => e = .returned (.map (some w.heap.size)) ∧ w'.heap[w.heap.size]? = some (.map rdTab 3) ∧ Below w.heap.size w w' := by
  have hmm := @run_makeMap Tryz.prog
  have g0 : (w.alloc (.map #[] 0)).heap[w.heap.size]? = some (.map #[] 0) := heap_alloc_new w _
  have b0 := (Below.refl w.heap.size w).alloc (Nat.le_refl _) (.map #[] 0)
  have r0 := upd_new (P := Tryz.prog) (val := .func (.func 148) #[] #[]) Tryz.underlying192 Tryz.underlying189 g0 (k := 0) rfl
  obtain ⟨w1, hw1⟩ : ∃ z, ({ (w.alloc (.map #[] 0)) with heap := (w.alloc (.map #[] 0)).heap.setIfInBounds w.heap.size (.map ((#[] : Array MapEntry).push { key := .int .i64 0, val := .func (.func 148) #[] #[], born := 0 }) (0 + 1)) } : World) = z := ⟨_, rfl⟩
  have g1 : w1.heap[w.heap.size]? = some (.map #[rdE 0 148 0] 1) := by rw [← hw1]; exact (MapKept.heap_set g0).1
  have b1 : Below w.heap.size w w1 := by rw [← hw1]; exact below_heap b0 (Nat.le_refl _)
  rw [hw1] at r0
  have r1 := upd_new (P := Tryz.prog) (val := .func (.func 149) #[] #[]) Tryz.underlying192 Tryz.underlying189 g1 (k := 1) rfl
  obtain ⟨w2, hw2⟩ : ∃ z, ({ w1 with heap := w1.heap.setIfInBounds w.heap.size (.map ((#[rdE 0 148 0] : Array MapEntry).push { key := .int .i64 1, val := .func (.func 149) #[] #[], born := 1 }) (1 + 1)) } : World) = z := ⟨_, rfl⟩
  have g2 : w2.heap[w.heap.size]? = some (.map #[rdE 0 148 0, rdE 1 149 1] 2) := by rw [← hw2]; exact (MapKept.heap_set g1).1
  have b2 : Below w.heap.size w w2 := by rw [← hw2]; exact below_heap b1 (Nat.le_refl _)
  rw [hw2] at r1
  have r2 := upd_new (P := Tryz.prog) (val := .func (.func 150) #[] #[]) Tryz.underlying192 Tryz.underlying189 g2 (k := 2) rfl
  obtain ⟨w3, hw3⟩ : ∃ z, ({ w2 with heap := w2.heap.setIfInBounds w.heap.size (.map ((#[rdE 0 148 0, rdE 1 149 1] : Array MapEntry).push { key := .int .i64 2, val := .func (.func 150) #[] #[], born := 2 }) (2 + 1)) } : World) = z := ⟨_, rfl⟩
  have g3 : w3.heap[w.heap.size]? = some (.map rdTab 3) := by rw [← hw3]; exact (MapKept.heap_set g2).1
  have b3 : Below w.heap.size w w3 := by rw [← hw3]; exact below_heap b2 (Nat.le_refl _)
  rw [hw3] at r2
  have HG := Lib.hid g3
  have HB := Lib.hid b3
  clear g0 b0 g1 b1 g2 b2 g3 b3 hw1 hw2 hw3
  go_enter Tryz.func120, Tryz.ntmps120
  go_wp2
  go_ret
  exact ⟨rfl, HG.out, HB.out⟩
theorem look_rd {w : World} {M : Nat} (h : w.heap[M]? = some (.map rdTab 3)) :
    (Instr.lookup 192 (.map (some M)) (.int .i64 0) false).run Tryz.prog w = .ok (.func (.func 148) #[] #[]) w ∧
    (Instr.lookup 192 (.map (some M)) (.int .i64 1) false).run Tryz.prog w = .ok (.func (.func 149) #[] #[]) w ∧
    (Instr.lookup 192 (.map (some M)) (.int .i64 2) false).run Tryz.prog w = .ok (.func (.func 150) #[] #[]) w :=
  ⟨look_hit (i := 0) Tryz.underlying192 Tryz.underlying189 h rfl, look_hit (i := 1) Tryz.underlying192 Tryz.underlying189 h rfl, look_hit (i := 2) Tryz.underlying192 Tryz.underlying189 h rfl⟩
end Go.Proofs.YtpmbijlldoiplaaGreatDoor
/- What each reader of a state does with a word. -/
namespace Go.Proofs.YtpmbijlldoiplaaGreatDoor
open Go.RowKit Pl

def OkR (n : Nat) (r : Rd) : Prop := r.part ≤ 2 ∧ (r.part = 2 → 0 ≤ r.last ∧ r.last < n) ∧ r.next.length = n ∧ (∀ x ∈ r.acc, 0 ≤ x ∧ x < 256) ∧ (∀ x ∈ r.next, -1 ≤ x ∧ x ≤ 9223372036854775807)
theorem OkR.step {acts : List ByteArray} (ha : actsB acts = true) {r r' : Rd} {X : List UInt8} (h : OkR acts.length r) (hs : stepR acts r X = some r') : OkR acts.length r' ∧ r'.acc.length ≤ r.acc.length + 1 := by
  have h8 := ((actsB_iff acts).1 ha).1
  obtain ⟨h1, h2, h3, h4, h5⟩ := h
  unfold stepR at hs
  split at hs
  · split at hs
    · cases hs
      exact ⟨⟨by show (1 : Nat) ≤ 2; omega, fun e => (by cases e), h3, h4, h5⟩, Nat.le_succ _⟩
    · split at hs
      · cases hs
      · rename_i y hy
        cases hs
        have hy2 := ((parse_iff ha _ _).1 hy).1
        have h9 : 2 ^ acts.length ≤ 2 ^ 8 := Nat.pow_le_pow_right (by decide) h8
        refine ⟨⟨by show (0 : Nat) ≤ 2; omega, fun e => (by cases e), h3, fun x hx => ?_, h5⟩, by simp⟩
        rcases List.mem_append.1 hx with hx | hx
        · exact h4 x hx
        · rw [List.mem_singleton] at hx
          omega
  · split at hs
    · split at hs
      · cases hs
      · rename_i hi
        cases hs
        obtain ⟨k, hk⟩ : ∃ k : Nat, Lib.idxOfS acts (mk X) = k := ⟨(Lib.idxOfS acts (mk X)).toNat, by omega⟩
        have h9 := (idx_at acts (mk X) k hk).1
        exact ⟨⟨by show (2 : Nat) ≤ 2; omega, fun _ => ⟨by show 0 ≤ Lib.idxOfS acts (mk X); omega, by show Lib.idxOfS acts (mk X) < _; omega⟩, h3, h4, h5⟩, Nat.le_succ _⟩
    · split at hs
      · cases hs
      · rename_i t ht
        cases hs
        have h9 := numV_range ht
        refine ⟨⟨by show (1 : Nat) ≤ 2; omega, fun e => (by cases e), by simpa using h3, h4, fun x hx => ?_⟩, Nat.le_succ _⟩
        rcases List.mem_or_eq_of_mem_set hx with hx | hx
        · exact h5 x hx
        · omega

/-- a reader in memory, the table of readers behind it -/
structure RdAt (W : World) (B R nb n : Nat) (a : Option Addr) (c : Nat) (r : Rd) (va : Value) : Prop where
  box : Whole W R 191 #[.slice a n c, .int .i64 r.part, .int .i64 r.last, va, .slice (some ⟨nb, 0, none⟩) n n]
  acc : W.ownsRow (R + 2) 3 1 va r.acc.length (r.acc.map (Value.int .i64))
  next : W.ownsRow B 3 1 (.slice (some ⟨nb, 0, none⟩) n n) n (r.next.map (Value.int .i64))
  low : B ≤ nb ∧ nb < R
  tab : W.heap[R + 1]? = some (.map rdTab 3)
theorem RdAt.cell {W : World} {B R nb n : Nat} {a : Option Addr} {c : Nat} {r : Rd} {va : Value} (h : RdAt W B R nb n a c r va) :
    W.cell? ⟨R, 0, none⟩ = some (.slice a n c) ∧ W.cell? ⟨R, 1, none⟩ = some (.int .i64 r.part) ∧ W.cell? ⟨R, 2, none⟩ = some (.int .i64 r.last) ∧ W.cell? ⟨R, 3, none⟩ = some va ∧ W.cell? ⟨R, 4, none⟩ = some (.slice (some ⟨nb, 0, none⟩) n n) :=
  ⟨h.box.cell 0, h.box.cell 1, h.box.cell 2, h.box.cell 3, h.box.cell 4⟩
/-- a world that keeps the blocks below the reader -/
def Low (R nb : Nat) (W W' : World) : Prop := ∀ k, k < R → k ≠ nb → W'.heap[k]? = W.heap[k]?
theorem low_set (R nb : Nat) (W : World) (p : Addr) (hp : R ≤ p.block) (u : Value) : Low R nb W (W.setCell p u) := fun k hk _ => Below.heap_setCell W p u k (by omega)
/-- a field of the reader that is stored -/
theorem RdAt.put {W : World} {B R nb n : Nat} {a : Option Addr} {c : Nat} {r : Rd} {va : Value} (h : RdAt W B R nb n a c r va) {r' : Rd} (k : Nat) (u : Value)
    (hb : (#[Value.slice a n c, .int .i64 r.part, .int .i64 r.last, va, .slice (some ⟨nb, 0, none⟩) n n]).setIfInBounds k u = #[Value.slice a n c, .int .i64 r'.part, .int .i64 r'.last, va, .slice (some ⟨nb, 0, none⟩) n n]) (ha : r'.acc = r.acc) (hn : r'.next = r.next) :
    RdAt (W.setCell ⟨R, k, none⟩ u) B R nb n a c r' va := by
  have hg := grown_self W ⟨R, k, none⟩ u
  refine ⟨by rw [← hb]; exact h.box.set k u, ?_, ?_, h.low, ?_⟩
  · rw [ha]
    exact h.acc.kept hg (.inr fun e => by have := own_ge h.acc _ e; simp only at this; omega)
  · rw [hn]
    exact h.next.kept hg (.inr fun e => by simp only [Value.ownBlock, Option.some.injEq] at e; have := h.low.2; omega)
  · rw [Below.heap_setCell W ⟨R, k, none⟩ u (R + 1) (by simp)]
    exact h.tab

theorem arrow_eq (x : ByteArray) : (x.toList == [45, 62]) = decide (x.data.toList = bArrow) := by
  rw [Bool.eq_iff_iff, beq_iff_eq, decide_eq_true_iff, ByteArray.toList_eq]
  rfl

set_option maxRecDepth 100000 in
set_option maxHeartbeats 2000000 in
theorem readSet_any {w0 W : World} {a : Option Addr} {n c R nb : Nat} {acts : List ByteArray} {r : Rd} {va : Value} (E : Env w0) (A : StrArg w0 a n c acts) (ha : actsB acts = true) (hb : Below w0.heap.size w0 W) (h : RdAt W w0.heap.size R nb n a c r va) (hp : r.part = 0) (hl : r.acc.length ≤ 1000000) (X : ByteArray) (hX : X.size ≤ 9223372036854775807) :
    Calls Tryz.prog 148 #[.pointer (some ⟨R, 0, none⟩), .string X] W fun e W' => Below w0.heap.size w0 W' ∧ Low R nb W W' ∧ ((stepR acts r X.data.toList = none ∧ e = .returned (.bool false)) ∨
      ∃ r' va', stepR acts r X.data.toList = some r' ∧ e = .returned (.bool true) ∧ RdAt W' w0.heap.size R nb n a c r' va') := by
  obtain ⟨i1, hi1, hz10, hz11, hz12⟩ := info_parts infoNumS
  have hR : w0.heap.size ≤ R := by have := h.low; omega
  have HB := Lib.hid hb
  have HH := Lib.hid h
  have hRl := h.box.lt
  obtain ⟨k0, k1, k2, k3, k4⟩ := h.cell
  have f1 := h.box.frozen 1
  by_cases hx : X.data.toList = bArrow
  · have hq : (X.toList == [45, 62]) = true := by rw [arrow_eq]; exact decide_eq_true hx
    have HS : Hid (stepR acts r X.data.toList = some ⟨1, r.last, r.acc, r.next⟩) := Lib.hid (by unfold stepR; rw [if_pos hp, if_pos hx])
    have HF : Hid (RdAt (W.setCell ⟨R, 1, none⟩ (.int .i64 1)) w0.heap.size R nb n a c ⟨1, r.last, r.acc, r.next⟩ va) := Lib.hid (h.put 1 (.int .i64 1) rfl rfl rfl)
    have HB2 := Lib.hid (hb.setCell (p := ⟨R, 1, none⟩) hR (.int .i64 1))
    clear hx h hb E A
    go_enter Tryz.func148, Tryz.ntmps148
    go_wp2
    go_ret
    exact ⟨HB2.out, low_set R nb W ⟨R, 1, none⟩ (Nat.le_refl _) _, .inr ⟨_, _, HS.out, rfl, HF.out⟩⟩
  · have hq : (X.toList == [45, 62]) = false := by rw [arrow_eq]; exact decide_eq_false hx
    obtain ⟨e0, e1, e2, hEr⟩ := (E.below hb).errs
    have hP := Parse_any X hX hEr (A.below hb)
    obtain ⟨y', cd, hpe, hst⟩ : ∃ y' cd : Int, ParseV acts X = .tuple #[.int .i64 y', .int .i64 cd] ∧
        ((cd = 11 ∧ stepR acts r X.data.toList = none) ∨ (cd = 0 ∧ stepR acts r X.data.toList = some ⟨0, r.last, r.acc ++ [y'], r.next⟩)) := by
      unfold ParseV
      rw [ha, if_pos rfl]
      cases hpo : parseO acts X.data.toList with
      | none => exact ⟨0, 11, rfl, .inl ⟨rfl, by unfold stepR; rw [if_pos hp, if_neg hx, hpo]⟩⟩
      | some y => exact ⟨y, 0, rfl, .inr ⟨rfl, by unfold stepR; rw [if_pos hp, if_neg hx, hpo]⟩⟩
    rw [hpe] at hP
    have HP := Lib.hid hP
    have HST := Lib.hid hst
    obtain ⟨aa, ac, rfl⟩ := own_slice' h.acc
    have HPt : Hid (r.part = 0) := Lib.hid hp
    clear hx h hb E A hP hEr hpe hst hp
    go_enter Tryz.func148, Tryz.ntmps148
    go_wp2_with fail
    refine HP.out.mono ?_
    rintro e w2 ⟨rfl, hb2⟩
    have Hb2 := Lib.hid hb2
    have m3 : w2.cell? ⟨R, 3, none⟩ = some (.slice aa r.acc.length ac) := up_cell hb2 k3
    have hown : Hid (∀ o, (w2.alloc o).ownsRow (R + 2) 3 1 (.slice aa r.acc.length ac) r.acc.length (r.acc.map (Value.int .i64))) := Lib.hid fun o => (own_up' HH.out.acc hb2).alloc o
    have hz2 := hb2.size
    have hbx2 := HH.out.box.below hb2 HH.out.box.lt
    have HBX := Lib.hid hbx2
    have hR1 : R + 1 < W.heap.size := (Array.getElem?_eq_some_iff.1 HH.out.tab).1
    have hRa : R + 2 ≤ w2.heap.size + 1 := by omega
    clear hb2 hbx2
    go_wp2_with (at_builtin; (refine wpList_append_sz rfl (.tmp 26) (.tmp 28) 28 rfl (R + 2) 3 i1 (.int .i64 0) 1 8 Tryz.underlying28 hi1 hz10 hz11 hz12 rfl (by decide) (.slice aa r.acc.length ac) rfl r.acc.length (r.acc.map (Value.int .i64)) (hown.out _) (some ⟨w2.heap.size, 0, none⟩) 1 1 rfl [.int .i64 y'] (fun h => by cases h) rfl (one_src _ _ _) (by simp [Value.oneCell']) (by unfold maxLen; omega) (by omega) (by simp; omega) ?_); intro v3 w3 hv3 hg3 hat3; refine Hid.out ?_)
    refine Lib.hid ?_
    obtain ⟨v3a, v3c, rfl⟩ := own_slice' hv3
    have hrow : ∀ q, (Value.slice aa r.acc.length ac).ownBlock = some q → R + 2 ≤ q := own_ge HH.out.acc
    have hbx3 := (HBX.out.alloc (.cells #[.int .i64 y'] 3)).grown hg3 (fun e => by have := hrow R e.symm; omega)
    have n3 := hbx3.cell 3
    have f3 := hbx3.frozen 3
    simp only [List.getElem?_toArray, List.getElem?_cons_succ, List.getElem?_cons_zero] at n3
    have hr3 : w3.ownsRow (R + 2) 3 1 (.slice v3a (r.acc.length + 1) v3c) (r.acc ++ [y']).length ((r.acc ++ [y']).map (Value.int .i64)) := by
      rw [List.length_append, List.map_append]; exact hv3
    have hb03 : Below w0.heap.size w0 w3 := ((HB.out.trans (Hb2.out.mono HB.out.size)).alloc (Nat.le_trans HB.out.size hz2) (.cells #[.int .i64 y'] 3)).grown hg3 (by simp; have := HB.out.size; omega) (fun q hq => by have := hrow q hq; omega)
    have hlow3 : ∀ k, k < W.heap.size → (Value.slice aa r.acc.length ac).ownBlock ≠ some k → w3.heap[k]? = W.heap[k]? := fun k hk hne => by
      rw [hg3.block k (by simp; omega) (fun e => hne e.symm), Below.heap_alloc w2 _ k (by omega)]
      exact Hb2.out.block k hk
    have hbelow := Lib.hid (hb03.setCell (p := ⟨R, 3, none⟩) hR (.slice v3a (r.acc.length + 1) v3c))
    have HF : Hid (RdAt (w3.setCell ⟨R, 3, none⟩ (.slice v3a (r.acc.length + 1) v3c)) w0.heap.size R nb n a c ⟨0, r.last, r.acc ++ [y'], r.next⟩ (.slice v3a (r.acc.length + 1) v3c)) := Lib.hid (by
      have hg := grown_self w3 ⟨R, 3, none⟩ (.slice v3a (r.acc.length + 1) v3c)
      refine ⟨?_, hr3.kept hg (.inr fun e => by have := own_ge hr3 _ e; simp only at this; omega), ?_, HH.out.low, ?_⟩
      · have := hbx3.set 3 (.slice v3a (r.acc.length + 1) v3c)
        rw [HPt.out] at this
        exact this
      · have h1 := ((own_up' HH.out.next Hb2.out).alloc (.cells #[.int .i64 y'] 3)).kept hg3 (.inr fun e => by
          simp only [Value.ownBlock] at e
          have := hrow nb e.symm
          have := HH.out.low.2
          omega)
        exact h1.kept hg (.inr fun e => by simp only [Value.ownBlock, Option.some.injEq] at e; have := HH.out.low.2; omega)
      · rw [Below.heap_setCell w3 ⟨R, 3, none⟩ (.slice v3a (r.acc.length + 1) v3c) (R + 1) (by simp), hlow3 (R + 1) hR1 (fun e => by have := hrow _ e; omega)]
        exact HH.out.tab)
    have HLow : Hid (Low R nb W (w3.setCell ⟨R, 3, none⟩ (.slice v3a (r.acc.length + 1) v3c))) := Lib.hid fun k hk _ => by
      rw [Below.heap_setCell w3 ⟨R, 3, none⟩ (.slice v3a (r.acc.length + 1) v3c) k (by simp; omega)]
      exact hlow3 k (by omega) (fun e => by have := hrow _ e; omega)
    clear hv3 hg3 hat3 hbx3 hr3 hb03 hlow3 hrow
    go_wp2
    go_ret
    refine ⟨hbelow.out, HLow.out, ?_⟩
    rcases HST.out with ⟨h1, h2⟩ | ⟨h1, h2⟩
    · exact .inl ⟨h2, by rw [h1]; rfl⟩
    · exact .inr ⟨_, _, h2, by rw [h1]; rfl, HF.out⟩

set_option maxRecDepth 100000 in
set_option maxHeartbeats 2000000 in
theorem readAction_any {w0 W : World} {a : Option Addr} {n c R nb : Nat} {acts : List ByteArray} {r : Rd} {va : Value} (E : Env w0) (A : StrArg w0 a n c acts) (ha : actsB acts = true) (hb : Below w0.heap.size w0 W) (h : RdAt W w0.heap.size R nb n a c r va) (hp : r.part = 1) (X : ByteArray) :
    Calls Tryz.prog 149 #[.pointer (some ⟨R, 0, none⟩), .string X] W fun e W' => Below w0.heap.size w0 W' ∧ Low R nb W W' ∧ ((stepR acts r X.data.toList = none ∧ e = .returned (.bool false)) ∨
      ∃ r' va', stepR acts r X.data.toList = some r' ∧ e = .returned (.bool true) ∧ RdAt W' w0.heap.size R nb n a c r' va') := by
  have hR : w0.heap.size ≤ R := by have := h.low; omega
  have HB := Lib.hid hb
  have HH := Lib.hid h
  have hRl := h.box.lt
  obtain ⟨k0, k1, k2, k3, k4⟩ := h.cell
  have f1 := h.box.frozen 1
  have f2 := h.box.frozen 2
  obtain ⟨e0, e1, e2, hEr⟩ := (E.below hb).errs
  have hF := Find_any X hEr (A.below hb)
  have hmk : mk X.data.toList = X := mk_of X
  have hs : stepR acts r X.data.toList = if Lib.idxOfS acts X < 0 ∨ Lib.idxOfS acts X ≤ r.last then none else some ⟨2, Lib.idxOfS acts X, r.acc, r.next⟩ := by
    unfold stepR
    rw [if_neg (by omega), if_pos hp, hmk]
  obtain ⟨p, hlast⟩ : ∃ p, p = r.last := ⟨_, rfl⟩
  rw [← hlast] at k2 hs
  have HL := Lib.hid hlast
  by_cases hi : Lib.idxOfS acts X < 0
  · rw [findV_no ha hi] at hF
    have HF := Lib.hid hF
    have HS : Hid (stepR acts r X.data.toList = none) := Lib.hid (by rw [hs, if_pos (.inl hi)])
    clear hi hF hs h hb E A hEr hmk hlast hp
    go_enter Tryz.func149, Tryz.ntmps149
    go_wp2_with fail
    refine HF.out.mono ?_
    rintro e w2 ⟨rfl, rfl⟩
    go_wp2
    go_ret
    exact ⟨HB.out, fun k _ _ => rfl, .inl ⟨HS.out, rfl⟩⟩
  · rw [findV_yes ha (by omega)] at hF
    obtain ⟨Z, HZ⟩ : ∃ Z, Hid (Lib.idxOfS acts X = Z) := ⟨_, Lib.hid rfl⟩
    rw [HZ.out] at hF hs hi
    by_cases hlt : Z ≤ p
    · have HF := Lib.hid hF
      have HS : Hid (stepR acts r X.data.toList = none) := Lib.hid (by rw [hs, if_pos (.inr hlt)])
      clear hi hF hs h hb E A hEr hmk hlast hp
      go_enter Tryz.func149, Tryz.ntmps149
      go_wp2_with fail
      refine HF.out.mono ?_
      rintro e w2 ⟨rfl, rfl⟩
      go_wp2
      go_ret
      exact ⟨HB.out, fun k _ _ => rfl, .inl ⟨HS.out, rfl⟩⟩
    · have HF := Lib.hid hF
      have HS : Hid (stepR acts r X.data.toList = some ⟨2, Z, r.acc, r.next⟩) := Lib.hid (by rw [hs, if_neg (by omega)])
      have h2 := h.put (r' := ⟨r.part, Z, r.acc, r.next⟩) 2 (.int .i64 Z) rfl rfl rfl
      have h3 := h2.put (r' := ⟨2, Z, r.acc, r.next⟩) 1 (.int .i64 2) rfl rfl rfl
      have m1 := h2.cell.2.1
      have g1 := h2.box.frozen 1
      have HFin := Lib.hid h3
      have HB2 := Lib.hid ((hb.setCell (p := ⟨R, 2, none⟩) hR (.int .i64 Z)).setCell (p := ⟨R, 1, none⟩) hR (.int .i64 2))
      have HLow : Hid (Low R nb W ((W.setCell ⟨R, 2, none⟩ (.int .i64 Z)).setCell ⟨R, 1, none⟩ (.int .i64 2))) := Lib.hid fun k hk hne => by
        rw [low_set R nb _ ⟨R, 1, none⟩ (Nat.le_refl _) _ k hk hne, low_set R nb W ⟨R, 2, none⟩ (Nat.le_refl _) _ k hk hne]
      clear hi hF hs h hb E A hEr hmk hlast hp h2 h3
      go_enter Tryz.func149, Tryz.ntmps149
      go_wp2_with fail
      refine HF.out.mono ?_
      rintro e w2 ⟨rfl, rfl⟩
      go_wp2
      go_ret
      exact ⟨HB2.out, HLow.out, .inr ⟨_, _, HS.out, rfl, HFin.out⟩⟩

set_option maxRecDepth 100000 in
set_option maxHeartbeats 4000000 in
theorem readTarget_any {w0 W : World} {a : Option Addr} {n c R nb : Nat} {acts : List ByteArray} {r : Rd} {va : Value} (E : Env w0) (_hn : n ≤ 8) (hb : Below w0.heap.size w0 W) (h : RdAt W w0.heap.size R nb n a c r va) (hp : r.part = 2) (hl : 0 ≤ r.last ∧ r.last < n) (hln : r.next.length = n) (X : ByteArray) (hX : X.size ≤ 1000000) :
    Calls Tryz.prog 150 #[.pointer (some ⟨R, 0, none⟩), .string X] W fun e W' => Below w0.heap.size w0 W' ∧ Low R nb W W' ∧ ((stepR acts r X.data.toList = none ∧ e = .returned (.bool false)) ∨
      ∃ r' va', stepR acts r X.data.toList = some r' ∧ e = .returned (.bool true) ∧ RdAt W' w0.heap.size R nb n a c r' va') := by
  have hR : w0.heap.size ≤ R := by have := h.low; omega
  have HB := Lib.hid hb
  have HH := Lib.hid h
  have hRl := h.box.lt
  obtain ⟨u, hu⟩ : ∃ u : Nat, r.last = (u : Int) := ⟨r.last.toNat, by omega⟩
  have HU := Lib.hid hu
  have hun : u < n := by omega
  have hP := parseNumber_any X (by omega) W (E.below hb)
  obtain ⟨x, ok, hpe, hst⟩ : ∃ (x : Int) (ok : Bool), numT X.data.toList = .tuple #[.int .i64 x, .bool ok] ∧
      ((ok = false ∧ stepR acts r X.data.toList = none) ∨ (ok = true ∧ stepR acts r X.data.toList = some ⟨1, r.last, r.acc, r.next.set u x⟩)) := by
    cases hnv : numV X.data.toList with
    | none => exact ⟨0, false, numT_none hnv, .inl ⟨rfl, by unfold stepR; rw [if_neg (by omega), if_neg (by omega), hnv]⟩⟩
    | some t => exact ⟨t, true, numT_some hnv, .inr ⟨rfl, by unfold stepR; rw [if_neg (by omega), if_neg (by omega), hnv]; show some (Rd.mk 1 r.last r.acc (r.next.set r.last.toNat t)) = _; rw [hu]; rfl⟩⟩
  rw [hpe] at hP
  have HP := Lib.hid hP
  have HST := Lib.hid hst
  have HLn := Lib.hid hln
  have hu0 : (0 : Int) ≤ (u : Int) := by omega
  have hu1 : (u : Int) < (n : Int) := by omega
  clear h hb E hP hpe hst hp hl hln hu
  go_enter Tryz.func150, Tryz.ntmps150
  go_wp2_with fail
  refine HP.out.mono ?_
  rintro e w2 ⟨rfl, hb2⟩
  have h2 : RdAt w2 w0.heap.size R nb n a c r va := ⟨HH.out.box.below hb2 HH.out.box.lt, own_up' HH.out.acc hb2, own_up' HH.out.next hb2, HH.out.low, (hb2.block _ (Array.getElem?_eq_some_iff.1 HH.out.tab).1).trans HH.out.tab⟩
  have hb02 := HB.out.trans (hb2.mono HB.out.size)
  have HB2 := Lib.hid hb02
  have hlow2 : Low R nb W w2 := fun k hk _ => hb2.block k (by omega)
  have HL2 := Lib.hid hlow2
  have h2d := h2
  obtain ⟨k0, k1, k2, k3, k4⟩ := h2d.cell
  rw [HU.out] at k2
  have f1 := h2d.box.frozen 1
  have hst := h2d.next.stored u (.int .i64 x)
  have kn := h2d.next.cellAt u (by omega)
  have fn := h2d.next.frozenAt u
  have hnx : ((r.next.map (Value.int .i64)).set u (.int .i64 x)) = (r.next.set u x).map (Value.int .i64) := by rw [List.map_set]
  rw [hnx] at hst
  have kn' : w2.cell? ⟨nb, u, none⟩ = some (.int .i64 (r.next.getD u 0)) := by
    rw [kn, List.getElem?_map, List.getElem?_eq_getElem (by rw [HLn.out]; exact hun), List.getD_eq_getElem?_getD, List.getElem?_eq_getElem (by rw [HLn.out]; exact hun)]
    rfl
  have h3 : RdAt (w2.setCell ⟨nb, u, none⟩ (.int .i64 x)) w0.heap.size R nb n a c ⟨r.part, r.last, r.acc, r.next.set u x⟩ va := by
    refine ⟨h2d.box.grown hst.2 (fun e => by simp only [Option.some.injEq] at e; have := h2d.low.2; omega), h2d.acc.kept hst.2 (.inr fun e => by have := own_ge h2d.acc _ e; have := h2d.low.2; omega), hst.1, h2d.low, ?_⟩
    rw [Below.heap_setCell w2 ⟨nb, u, none⟩ _ (R + 1) (by simp; have := h2d.low.2; omega)]
    exact h2d.tab
  have m1 := h3.cell.2.1
  have g1 := h3.box.frozen 1
  have h4 := h3.put (r' := ⟨1, r.last, r.acc, r.next.set u x⟩) 1 (.int .i64 1) rfl rfl rfl
  have HF : Hid (RdAt ((w2.setCell ⟨nb, u, none⟩ (.int .i64 x)).setCell ⟨R, 1, none⟩ (.int .i64 1)).drew w0.heap.size R nb n a c ⟨1, r.last, r.acc, r.next.set u x⟩ va) := Lib.hid ⟨h4.box, h4.acc, h4.next, h4.low, h4.tab⟩
  have HB4 := Lib.hid ((hb02.setCell (p := ⟨nb, u, none⟩) h2.low.1 (.int .i64 x)).setCell (p := ⟨R, 1, none⟩) hR (.int .i64 1)).drew
  have HLow : Hid (Low R nb W ((w2.setCell ⟨nb, u, none⟩ (.int .i64 x)).setCell ⟨R, 1, none⟩ (.int .i64 1)).drew) := Lib.hid fun k hk hne => by
    show ((w2.setCell ⟨nb, u, none⟩ (.int .i64 x)).setCell ⟨R, 1, none⟩ (.int .i64 1)).heap[k]? = _
    rw [low_set R nb _ ⟨R, 1, none⟩ (Nat.le_refl _) _ k hk hne, Below.heap_setCell w2 ⟨nb, u, none⟩ _ k (by simpa using hne)]
    exact HL2.out k hk hne
  have hnb : nb ≠ R := by have := h2.low.2; omega
  clear h2 h2d h3 h4 hb2 hb02 hlow2 hst kn hnx
  go_wp2
  go_region
  go_wp2
  go_ret
  refine ⟨HB4.out, HLow.out, ?_⟩
  rcases HST.out with ⟨h1, h2⟩ | ⟨h1, h2⟩
  · exact .inl ⟨h2, by rw [h1]; rfl⟩
  · exact .inr ⟨_, _, h2, by rw [h1]; rfl, HF.out⟩
end Go.Proofs.YtpmbijlldoiplaaGreatDoor
/- spec.parseState. -/
namespace Go.Proofs.YtpmbijlldoiplaaGreatDoor
open Go.RowKit Pl

theorem foldR_next {acts : List ByteArray} {r : List (List UInt8)} {x : Nat} {q : Rd} (h : foldR acts (some (rd0 acts)) (r.take x) = some q) (hx : x < r.length) : foldR acts (some (rd0 acts)) (r.take (x + 1)) = stepR acts q (r.getD x []) := by
  rw [take_next r x [] hx, foldR_app, h]
  rfl
theorem foldR_stop {acts : List ByteArray} {r : List (List UInt8)} {x : Nat} (h : foldR acts (some (rd0 acts)) (r.take x) = none) : steO acts r = none := by
  unfold steO
  rw [← List.take_append_drop x r, foldR_app, h, foldR_none]
  rfl
theorem fits_small {l : List Int} (h : ∀ x ∈ l, -1 ≤ x ∧ x ≤ 9223372036854775807) (hl : l.length ≤ 17592186044416) : Fits l := ⟨hl, fun j hj => by
  have := h (l.getD j 0) (by rw [List.getD_eq_getElem?_getD, List.getElem?_eq_getElem hj]; exact List.getElem_mem hj)
  omega⟩

set_option maxRecDepth 100000 in
set_option maxHeartbeats 8000000 in
theorem spParseState_any {w : World} {a : Option Addr} {n c : Nat} {acts : List ByteArray} {a2 : Option Addr} {N c2 : Nat} {r : List (List UInt8)} (E : Env w) (A : StrArg w a n c acts) (B : StrArg w a2 N c2 (r.map mk)) (hact : actsB acts = true) (hr : r.length ≤ 1000000) (hsz : ∀ x ∈ r, x.length ≤ 1000000) :
    Calls Tryz.prog 72 #[.slice a n c, .slice a2 N c2] w fun e w' => Below w.heap.size w w' ∧
      ((steO acts r = none ∧ ∃ pa pn pc qa qn qc, e = .returned (.tuple #[.agg #[.slice pa pn pc, .slice qa qn qc], .bool false])) ∨
        ∃ t p q, steO acts r = some t ∧ e = .returned (.tuple #[.agg #[p, q], .bool true]) ∧ NumO w' w.heap.size p t.1 ∧ NumO w' w.heap.size q t.2 ∧ Fits t.1 ∧ Fits t.2) := by
  have HE := Lib.hid E
  have HA := Lib.hid A
  have HBs := Lib.hid B
  have HACT := Lib.hid hact
  have HSz := Lib.hid hsz
  have HR2 : Hid (N = r.length) := Lib.hid (by have := B.len; rwa [List.length_map] at this)
  have h8 : n ≤ 8 := by have := ((actsB_iff acts).1 hact).1; have := A.len; omega
  have HNl : Hid (acts.length = n) := Lib.hid A.len.symm
  have hN2 : N ≤ 1000000 := by have := HR2.out; omega
  -- the row of one number, and what Repeat makes of it
  have hb0 := ((Below.refl w.heap.size w).alloc (Nat.le_refl _) (.cells #[.slice none 0 0, .slice none 0 0] 101)).alloc (by simp) (.cells #[.int .i64 (-1)] 3)
  have hc0 : ((w.alloc (.cells #[.slice none 0 0, .slice none 0 0] 101)).alloc (.cells #[.int .i64 (-1)] 3)).cell? ⟨w.heap.size + 1, 0, none⟩ = some (.int .i64 (-1)) := by
    have := (Whole.new (w.alloc (.cells #[.slice none 0 0, .slice none 0 0] 101)) 3 #[.int .i64 (-1)]).cell 0
    rw [World.size_alloc] at this
    exact this
  have hw0 := (Whole.new w 101 #[.slice none 0 0, .slice none 0 0]).alloc (.cells #[.int .i64 (-1)] 3)
  have HRep := Repeat_any (c := 1) (n := n) (by omega) hc0
  obtain ⟨w1, HW1⟩ : ∃ z, Hid ((w.alloc (.cells #[.slice none 0 0, .slice none 0 0] 101)).alloc (.cells #[.int .i64 (-1)] 3) = z) := ⟨_, Lib.hid rfl⟩
  have hz1 : w1.heap.size = w.heap.size + 2 := by rw [← HW1.out]; simp
  rw [HW1.out] at hb0 hw0 HRep
  have HRep := Lib.hid HRep
  have HB0 := Lib.hid hb0
  have HWr0 := Lib.hid hw0
  have HZ1 := Lib.hid hz1
  clear E A B hact hsz hr hb0 hc0 hw0 hz1
  go_enter Tryz.func72, Tryz.ntmps72
  go_wp2_with fail
  rw [HW1.out]
  refine HRep.out.mono ?_
  rintro e w2 ⟨rfl, hrow, hb2⟩
  have HRow := Lib.hid hrow
  have hz2 : w1.heap.size < w2.heap.size := (hrow.lt _ rfl).2
  have HB2 := Lib.hid (HB0.out.trans (hb2.mono HB0.out.size))
  have HWr2 := Lib.hid (HWr0.out.below hb2 HWr0.out.lt)
  clear hrow hb2
  obtain ⟨nb, HNB⟩ : ∃ z, Hid (w1.heap.size = z) := ⟨_, Lib.hid rfl⟩
  rw [HNB.out] at HRow hz2
  rw [HNB.out]
  have hnb : w.heap.size < nb := by rw [← HNB.out, HZ1.out]; omega
  have hbox := Whole.new w2 191 #[.slice a n c, .int .i64 0, .int .i64 (-1), .slice none 0 0, .slice (some ⟨nb, 0, none⟩) n n]
  have hb3 := (Below.refl w2.heap.size w2).alloc (Nat.le_refl _) (.cells #[.slice a n c, .int .i64 0, .int .i64 (-1), .slice none 0 0, .slice (some ⟨nb, 0, none⟩) n n] 191)
  obtain ⟨w3, HW3⟩ : ∃ z, Hid (w2.alloc (.cells #[.slice a n c, .int .i64 0, .int .i64 (-1), .slice none 0 0, .slice (some ⟨nb, 0, none⟩) n n] 191) = z) := ⟨_, Lib.hid rfl⟩
  rw [HW3.out] at hbox hb3
  have hz3 : w3.heap.size = w2.heap.size + 1 := by rw [← HW3.out]; simp
  have HRd := Lib.hid (readers_any w3)
  rw [hz3] at HRd
  have HBx := Lib.hid hbox
  have HB3 := Lib.hid hb3
  have HZ3 := Lib.hid hz3
  clear hbox hb3 hz3
  go_wp2_with fail
  rw [HW3.out]
  refine HRd.out.mono ?_
  rintro e w4 ⟨rfl, htab, hb4⟩
  have hb24 : Below w2.heap.size w2 w4 := HB3.out.trans (hb4.mono (by have := HZ3.out; omega))
  have hb04 := HB2.out.trans (hb24.mono HB2.out.size)
  have HAt : Hid (RdAt w4 w.heap.size w2.heap.size nb n a c (rd0 acts) (.slice none 0 0)) := Lib.hid (by
    refine ⟨HBx.out.below hb4 (by have := HZ3.out; omega), World.ownsRow_nil _ _ _ _, ?_, by omega, htab⟩
    have h1 := own_up' HRow.out hb24
    have h2 : (rd0 acts).next = List.replicate n (-1) := by rw [← HNl.out]; rfl
    rw [h2]
    exact own_low h1 (by omega))
  have HOk : Hid (OkR n (rd0 acts)) := Lib.hid ⟨by show (0 : Nat) ≤ 2; omega, fun e => (by cases e), by rw [← HNl.out]; simp [rd0], fun x hx => (by simp [rd0] at hx), fun x hx => by
    have := List.eq_of_mem_replicate hx
    omega⟩
  have HRes : Hid (Whole w4 w.heap.size 101 #[.slice none 0 0, .slice none 0 0]) := Lib.hid (HWr2.out.below hb24 (by have := HWr2.out.lt; omega))
  have HB4 := Lib.hid hb04
  clear htab hb4 hb24 hb04
  go_wp2
  go_loopw [10, 23] (fun _ i wr => ∃ (x : Nat) (q : Rd) (va : Value), i = .int .i64 x ∧ x ≤ N ∧ Hid (RdAt wr w.heap.size w2.heap.size nb n a c q va) ∧ Hid (OkR n q ∧ q.acc.length ≤ x ∧ foldR acts (some (rd0 acts)) (r.take x) = some q) ∧ Hid (Whole wr w.heap.size 101 #[.slice none 0 0, .slice none 0 0]) ∧ Below w.heap.size w wr) (fun _ i _ => N - (intOf i).toNat)
  case atStart => exact ⟨0, rd0 acts, _, rfl, Nat.zero_le _, HAt, Lib.hid ⟨HOk.out, Nat.zero_le _, by simp [foldR]⟩, HRes, HB4.out⟩
  case round =>
    obtain ⟨x, q, va, rfl, hx, hat, hq, hres, hb⟩ := hrel
    have HB := Lib.hid hb
    have hzr := hb.size
    have k1 := hat.out.cell.2.1
    have hRl := hat.out.box.lt
    clear hb
    by_cases hlt : x < N
    · obtain ⟨xw, HXw⟩ : ∃ z, Hid (r.getD x [] = z) := ⟨_, Lib.hid rfl⟩
      obtain ⟨bw, ow, rfl, c1⟩ := (HBs.out.below HB.out).cells x (by rw [List.length_map]; have := HR2.out; omega)
      have hgx : r[x]? = some xw := by
        rw [← HXw.out, List.getD_eq_getElem?_getD, List.getElem?_eq_getElem (by have := HR2.out; omega)]; rfl
      rw [List.getD_eq_getElem?_getD, List.getElem?_map, hgx] at c1
      change wr.cell? _ = some (.string (mk xw)) at c1
      obtain ⟨X, HX⟩ : ∃ z, Hid (mk xw = z) := ⟨_, Lib.hid rfl⟩
      rw [HX.out] at c1
      have hXd : X.data.toList = xw := by rw [← HX.out, mk_data]
      have hXs : X.size ≤ 1000000 := by rw [← HX.out, mk_size']; exact HSz.out _ (List.mem_of_getElem? hgx)
      have hnx := foldR_next hq.out.2.2 (by have := HR2.out; omega)
      rw [HXw.out, ← hXd] at hnx
      have HNx := Lib.hid hnx
      -- what the table holds there
      obtain ⟨f, hent, hlook, hcall⟩ : ∃ f, (∀ args w, (callFunc f args).run Tryz.prog w = .ok (.enter f args) w) ∧ (∀ os : Nat, (Instr.lookup 192 (.map (some (w2.heap.size + 1))) (.int .i64 q.part) false).run Tryz.prog wr = .ok (.func (.func f) #[] #[]) wr) ∧
          Calls Tryz.prog f #[.pointer (some ⟨w2.heap.size, 0, none⟩), .string X] wr fun e W' => Below w.heap.size w W' ∧ Low w2.heap.size nb wr W' ∧ ((stepR acts q X.data.toList = none ∧ e = .returned (.bool false)) ∨
            ∃ r' va', stepR acts q X.data.toList = some r' ∧ e = .returned (.bool true) ∧ RdAt W' w.heap.size w2.heap.size nb n a c r' va') := by
        have hl := look_rd hat.out.tab
        rcases (show q.part = 0 ∨ q.part = 1 ∨ q.part = 2 by have := hq.out.1.1; omega) with e | e | e
        · rw [e]
          exact ⟨148, enters_of Tryz.func148 (by kernel_rfl) rfl, fun _ => hl.1, readSet_any HE.out HA.out HACT.out HB.out hat.out e (by have := hq.out.2.1; omega) X (by omega)⟩
        · rw [e]
          exact ⟨149, enters_of Tryz.func149 (by kernel_rfl) rfl, fun _ => hl.2.1, readAction_any HE.out HA.out HACT.out HB.out hat.out e X⟩
        · rw [e]
          exact ⟨150, enters_of Tryz.func150 (by kernel_rfl) rfl, fun _ => hl.2.2, readTarget_any HE.out h8 HB.out hat.out e (hq.out.1.2.1 e) hq.out.1.2.2.1 X hXs⟩
      have hlk := hlook 0
      have HC := Lib.hid hcall
      clear hgx hnx hlook hcall hXd
      go_wp2_with fail
      refine HC.out.mono ?_
      rintro e w5 ⟨hb5, hlow, hcase⟩
      have HB5 := Lib.hid hb5
      have hres5 : Whole w5 w.heap.size 101 #[.slice none 0 0, .slice none 0 0] := (hlow _ (by omega) (by omega)).trans hres.out
      have HRes5 := Lib.hid hres5
      have r0 := hres5.cell 0
      have r1 := hres5.cell 1
      have f0 := hres5.frozen 0
      have f1 := hres5.frozen 1
      have hz5 := hres5.lt
      simp only [List.getElem?_toArray, List.getElem?_cons_succ, List.getElem?_cons_zero] at r0 r1
      clear hb5 hlow hres5
      rcases hcase with ⟨hno, rfl⟩ | ⟨q', va', hyes, rfl, hat'⟩
      · have HN : Hid (steO acts r = none) := Lib.hid (foldR_stop (x := x + 1) (by rw [HNx.out]; exact hno))
        have g0 := (HRes5.out.set 0 (.slice none 0 0)).cell 0
        have g1 := ((HRes5.out.set 0 (.slice none 0 0)).set 1 (.slice none 0 0)).cell 1
        simp only [List.setIfInBounds_toArray, List.set_cons_zero, List.set_cons_succ, List.getElem?_toArray, List.getElem?_cons_succ, List.getElem?_cons_zero] at g0 g1
        have HBe := Lib.hid ((HB5.out.setCell (p := ⟨w.heap.size, 0, none⟩) (Nat.le_refl _) (.slice none 0 0)).setCell (p := ⟨w.heap.size, 1, none⟩) (Nat.le_refl _) (.slice none 0 0))
        clear hno
        go_wp2
        exact bodyPost_ret (v := .tuple #[.agg #[.slice none 0 0, .slice none 0 0], .bool false]) (by simp [results, Tryz.results72, go_sem, g0, g1]) rfl ⟨HBe.out, .inl ⟨HN.out, _, _, _, _, _, _, rfl⟩⟩
      · have HAt' := Lib.hid hat'
        have hst : OkR n q' ∧ q'.acc.length ≤ q.acc.length + 1 := by rw [← HNl.out]; exact OkR.step HACT.out (by rw [HNl.out]; exact hq.out.1) hyes
        have HQ' : Hid (OkR n q' ∧ q'.acc.length ≤ x + 1 ∧ foldR acts (some (rd0 acts)) (r.take (x + 1)) = some q') := Lib.hid ⟨hst.1, by have := hq.out.2.1; omega, by rw [HNx.out]; exact hyes⟩
        clear hst hyes hat' r0 r1 f0 f1
        go_wp2
        go_roundw
        case rel => exact ⟨x + 1, q', va', by go_num, by omega, HAt', HQ', HRes5, HB5.out⟩
        case measure => simp [intOf]; omega
    · have HQe : Hid (steO acts r = rdO (some q)) := Lib.hid (by
        have h9 := hq.out.2.2
        rw [List.take_of_length_le (by have := HR2.out; omega)] at h9
        unfold steO
        rw [h9])
      obtain ⟨va1, vc1, rfl⟩ := own_slice' hat.out.acc
      obtain ⟨k0, k1', k2, k3, k4⟩ := hat.out.cell
      clear k1'
      have r0 := hres.out.cell 0
      have r1 := hres.out.cell 1
      have f0 := hres.out.frozen 0
      have f1 := hres.out.frozen 1
      have hz5 := hres.out.lt
      simp only [List.getElem?_toArray, List.getElem?_cons_succ, List.getElem?_cons_zero] at r0 r1
      obtain ⟨L, hL⟩ : ∃ z, q.acc.length = z := ⟨_, rfl⟩
      rw [hL] at k3
      rw [hL] at hat
      have g0 := (hres.out.set 0 (.slice va1 L vc1)).cell 0
      have g1 := ((hres.out.set 0 (.slice va1 L vc1)).set 1 (.slice (some ⟨nb, 0, none⟩) n n)).cell 1
      simp only [List.setIfInBounds_toArray, List.set_cons_zero, List.set_cons_succ, List.getElem?_toArray, List.getElem?_cons_succ, List.getElem?_cons_zero] at g0 g1
      have HBe := Lib.hid ((HB.out.setCell (p := ⟨w.heap.size, 0, none⟩) (Nat.le_refl _) (.slice va1 L vc1)).setCell (p := ⟨w.heap.size, 1, none⟩) (Nat.le_refl _) (.slice (some ⟨nb, 0, none⟩) n n)).drew
      have hq2 := hq.out.1
      have HF1 : Hid (Fits q.acc) := Lib.hid (fits_small (fun z hz => by have := hq2.2.2.2.1 z hz; omega) (by have := hq.out.2.1; omega))
      have HF2 : Hid (Fits q.next) := Lib.hid (fits_small hq2.2.2.2.2 (by rw [hq2.2.2.1]; omega))
      have hgr : wr.grownBy (((wr.setCell ⟨w.heap.size, 0, none⟩ (.slice va1 L vc1)).setCell ⟨w.heap.size, 1, none⟩ (.slice (some ⟨nb, 0, none⟩) n n)).drew) (some w.heap.size) := by
        have h1 := (grown_self wr ⟨w.heap.size, 0, none⟩ (.slice va1 L vc1)).trans (grown_self (wr.setCell ⟨w.heap.size, 0, none⟩ (.slice va1 L vc1)) ⟨w.heap.size, 1, none⟩ (.slice (some ⟨nb, 0, none⟩) n n))
        exact ⟨h1.os, h1.tape, h1.output, h1.size, h1.block⟩
      have HP : Hid (NumO (((wr.setCell ⟨w.heap.size, 0, none⟩ (.slice va1 L vc1)).setCell ⟨w.heap.size, 1, none⟩ (.slice (some ⟨nb, 0, none⟩) n n)).drew) w.heap.size (.slice va1 L vc1) q.acc) := Lib.hid (by
        have h1 := hat.out.acc
        exact own_low (h1.kept hgr (.inr fun e => by have := own_ge h1 _ e; omega)) (by omega))
      have HQ : Hid (NumO (((wr.setCell ⟨w.heap.size, 0, none⟩ (.slice va1 L vc1)).setCell ⟨w.heap.size, 1, none⟩ (.slice (some ⟨nb, 0, none⟩) n n)).drew) w.heap.size (.slice (some ⟨nb, 0, none⟩) n n) q.next) := Lib.hid (by
        have h1 := hat.out.next
        have h2 := h1.kept hgr (.inr fun e => by simp only [Value.ownBlock, Option.some.injEq] at e; omega)
        unfold NumO
        rw [hq2.2.2.1]
        exact h2)
      have hR0 : w2.heap.size ≠ w.heap.size := by omega
      clear hgr hq2
      obtain ⟨pt, HPt⟩ : ∃ z : Nat, Hid (q.part = z) := ⟨_, Lib.hid rfl⟩
      rw [HPt.out] at k1
      by_cases hp1 : pt = 1
      · subst hp1
        have HT : Hid (steO acts r = some (q.acc, q.next)) := Lib.hid (by rw [HQe.out]; show (if q.part = 1 then some (q.acc, q.next) else none) = _; rw [HPt.out]; rfl)
        go_wp2
        go_region
        go_wp2
        exact bodyPost_ret (v := .tuple #[.agg #[.slice va1 L vc1, .slice (some ⟨nb, 0, none⟩) n n], .bool true]) (by simp [results, Tryz.results72, go_sem, g0, g1]) rfl ⟨HBe.out, .inr ⟨(q.acc, q.next), _, _, HT.out, rfl, HP.out, HQ.out, HF1.out, HF2.out⟩⟩
      · have hpq : ((pt : Int) == 1) = false := by rw [beq_eq_false_iff_ne]; omega
        have HT : Hid (steO acts r = none) := Lib.hid (by rw [HQe.out]; show (if q.part = 1 then some (q.acc, q.next) else none) = _; rw [HPt.out, if_neg hp1])
        go_wp2
        go_region
        go_wp2
        exact bodyPost_ret (v := .tuple #[.agg #[.slice va1 L vc1, .slice (some ⟨nb, 0, none⟩) n n], .bool false]) (by simp [results, Tryz.results72, go_sem, g0, g1]) rfl ⟨HBe.out, .inl ⟨HT.out, _, _, _, _, _, _, rfl⟩⟩
end Go.Proofs.YtpmbijlldoiplaaGreatDoor
/- terms.ParseText, as spec.Parse calls it. -/
namespace Go.Proofs.YtpmbijlldoiplaaGreatDoor
open Go.RowKit Pl

theorem StesOwn.low {w : World} {base base' : Nat} {v : Value} {ss : List Ste} (h : StesOwn w base v ss) (hb : base' ≤ base) : StesOwn w base' v ss := by
  obtain ⟨rows, r1, r2, r3⟩ := h
  refine ⟨rows, r1, own_low r2 hb, fun i hi => ?_⟩
  obtain ⟨r, h1, h2, h3⟩ := r3 i hi
  exact ⟨r, h1, own_low h2 hb, own_low h3 hb⟩

set_option maxRecDepth 100000 in
set_option maxHeartbeats 8000000 in
theorem SpPText_any (kw s : ByteArray) (hs : s.size ≤ 9223372036854775807) (w : World) (E : Env w) :
    Calls Tryz.prog 71 #[.string kw, .string s, .func (.func 72) #[] #[]] w fun e w' => Below w.heap.size w w' ∧
      ((∃ c : Int, c ≠ 0 ∧ textK kw.data.toList steO s.data.toList = ([], [], c) ∧ e = .returned (.tuple #[.slice none 0 0, .slice none 0 0, .int .i64 c])) ∨
        ∃ acts ss a c vs, textK kw.data.toList steO s.data.toList = (acts, ss, 0) ∧ e = .returned (.tuple #[.slice a acts.length c, vs, .int .i64 0]) ∧ StrArg w' a acts.length c acts ∧ (∀ ad, a = some ad → w.heap.size ≤ ad.block) ∧
          StesOwn w' w.heap.size vs ss ∧ (∀ i, i < ss.length → Fits (teAt ss i).1 ∧ Fits (teAt ss i).2) ∧ ss.length ≤ 1000000 ∧ actsB acts = true) := by
  obtain ⟨i2, hi2, hz20, hz21, hz22⟩ := info_parts infoState
  have HE := Lib.hid E
  clear E
  by_cases hl : 60000 < s.size
  · have HP := Lib.hid (textK_large (kw := kw.data.toList) (rp := steO) (l := s.data.toList) (by rw [← Lib.size_eq]; exact hl))
    have hl' : (60000 : Int) < s.size := by omega
    go_enter Tryz.func71, Tryz.ntmps71
    go_wp2
    go_ret3
    exact ⟨Below.refl _ _, .inl ⟨2, by omega, HP.out, rfl⟩⟩
  · have hl' : (s.size : Int) ≤ 60000 := by omega
    obtain ⟨ls, hl1, hl2, hl3⟩ := textK_lines kw.data.toList steO (s := s) (by rw [← Lib.size_eq]; exact hl)
    have HTr := Lib.hid (trim_any s (by omega) w)
    have hu0 : (mk (cut1 s.data.toList)).size ≤ 60000 := by
      rw [mk_size']
      have := cut1_le s.data.toList
      rw [← Lib.size_eq] at this
      omega
    obtain ⟨u, HU⟩ : ∃ u, Hid (mk (cut1 s.data.toList) = u) := ⟨_, Lib.hid rfl⟩
    rw [HU.out] at HTr hl1 hl2 hl3 hu0
    have HSp := split_any 10 u (by omega) w HE.out
    have hN2 := spB_count 10 u
    have hszs : ∀ x ∈ spB 10 u, x.size ≤ 1000000 := fun x hx => Nat.le_trans (spB_size hx) (by omega)
    obtain ⟨ws, HWS⟩ : ∃ ws, Hid (spB 10 u = ws) := ⟨_, Lib.hid rfl⟩
    rw [HWS.out] at hl1 hl2 hl3 HSp hN2 hszs
    have HSz := Lib.hid hszs
    have HL1 := Lib.hid hl1
    have HL3 := Lib.hid hl3
    obtain ⟨N, HN⟩ : ∃ N, Hid (ws.length = N) := ⟨_, Lib.hid rfl⟩
    rw [HN.out] at HSp hN2 hl2
    have HL2' := Lib.hid hl2
    have HSp := Lib.hid HSp
    have hN1 : 0 < N := by omega
    clear hl1 hl2 hl3 hszs
    have hAw := strs_new w ws (by have := HN.out; omega) (fun x hx => Nat.le_trans (HSz.out x hx) (by omega))
    rw [HN.out] at hAw
    have hb1 := (Below.refl w.heap.size w).alloc (Nat.le_refl _) (.cells (ws.map Value.string).toArray 9)
    have hz1 : w.heap.size < (w.alloc (.cells (ws.map Value.string).toArray 9)).heap.size := by simp
    obtain ⟨w1, HW1⟩ : ∃ z, Hid (w.alloc (.cells (ws.map Value.string).toArray 9) = z) := ⟨_, Lib.hid rfl⟩
    rw [HW1.out] at hAw hb1 hz1
    have HAw := Lib.hid hAw
    have HB1 := Lib.hid hb1
    obtain ⟨x0, HX0⟩ : ∃ x, Hid (at_ ws 0 = x) := ⟨_, Lib.hid rfl⟩
    have c0 : w1.cell? ⟨w.heap.size, 0, none⟩ = some (.string x0) := by
      obtain ⟨b, off, e, hc⟩ := hAw.cells 0 (by have := HN.out; omega)
      cases e
      rw [← HX0.out]
      change w1.cell? _ = some (.string (at_ ws 0)) at hc
      simpa using hc
    have hx0 : x0.size ≤ 1000000 := by rw [← HX0.out]; exact HSz.out _ (at_in _ _ (by have := HN.out; omega))
    have HCl := Lib.hid (clone_any x0 hx0 w1)
    have hN0 : (0 : Int) < N := by omega
    -- the words of the first line
    have HP := Lib.hid (headK_eq kw x0)
    have hM1 := spB_pos 32 x0
    have hM2 := spB_count 32 x0
    have HSpl := fun (W : World) (hb : Below w1.heap.size w1 W) => split_any 32 x0 hx0 W ((HE.out.below HB1.out).below hb)
    have hMsz : ∀ x ∈ spB 32 x0, x.size ≤ 9223372036854775807 := fun x hx => Nat.le_trans (spB_size hx) (by omega)
    obtain ⟨hd, HHD⟩ : ∃ hd, Hid (spB 32 x0 = hd) := ⟨_, Lib.hid rfl⟩
    rw [HHD.out] at HP hM1 hM2 HSpl hMsz
    have HSpl := Lib.hid HSpl
    have HMsz := Lib.hid hMsz
    obtain ⟨M, HM⟩ : ∃ M, Hid (hd.length = M) := ⟨_, Lib.hid rfl⟩
    rw [HM.out] at hM1 hM2 HSpl
    have hM0 : (0 : Int) < M := by omega
    clear hAw hb1 hMsz
    go_enter Tryz.func71, Tryz.ntmps71
    go_wp2_with fail
    refine HTr.out.mono ?_
    rintro e w' ⟨rfl, rfl⟩
    go_wp2_with fail
    refine HSp.out.mono ?_
    rintro e w' ⟨rfl, rfl⟩
    rw [HW1.out]
    go_wp2_with fail
    refine HCl.out.mono ?_
    rintro e w2 ⟨rfl, hb2⟩
    have HB12 := Lib.hid hb2
    have hz2 := hb2.size
    clear hb2
    go_wp2_with fail
    refine (HSpl.out w2 HB12.out).mono ?_
    rintro e w' ⟨rfl, rfl⟩
    have hAh := strs_new w2 hd (by have := HM.out; omega) HMsz.out
    rw [HM.out] at hAh
    have hb3 := (Below.refl w2.heap.size w2).alloc (Nat.le_refl _) (.cells (hd.map Value.string).toArray 9)
    obtain ⟨w3, HW3⟩ : ∃ z, Hid (w2.alloc (.cells (hd.map Value.string).toArray 9) = z) := ⟨_, Lib.hid rfl⟩
    rw [HW3.out] at hAh hb3
    rw [HW3.out]
    have hz3 := hb3.size
    have HB3 := Lib.hid (HB1.out.trans ((HB12.out.trans (hb3.mono hz2)).mono (Nat.le_of_lt hz1)))
    have HB13 := Lib.hid (HB12.out.trans (hb3.mono hz2))
    obtain ⟨ah, hcut, hcutA, hbl⟩ := cut_from hAh 1 hM1
    simp only [Int.natCast_one] at hcut
    have HBL : Hid (∀ ad, ah = some ad → w.heap.size ≤ ad.block) := Lib.hid fun ad e => by
      obtain ⟨ad0, h1, h2⟩ := hbl ad e
      cases h1
      rw [h2]
      simp only
      omega
    obtain ⟨e0, e1, e2, hEr⟩ := (HE.out.below HB3.out).errs
    have HCk := Lib.hid (Check_any hEr hcutA)
    obtain ⟨y0, HY0⟩ : ∃ x, Hid (at_ hd 0 = x) := ⟨_, Lib.hid rfl⟩
    have c3 : w3.cell? ⟨w2.heap.size, 0, none⟩ = some (.string y0) := by
      obtain ⟨b, off, e, hc⟩ := hAh.cells 0 (by have := HM.out; omega)
      cases e
      rw [← HY0.out]
      change w3.cell? _ = some (.string (at_ hd 0)) at hc
      simpa using hc
    rw [HY0.out] at HP
    obtain ⟨acts, hacts⟩ : ∃ z, z = hd.drop 1 := ⟨_, rfl⟩
    have hl : M - 1 = acts.length := by rw [hacts, List.length_drop, HM.out]
    have HLn := Lib.hid hl
    rw [← hacts] at HP HCk hcutA
    have HAc := Lib.hid hcutA
    have HE3 := Lib.hid (HE.out.below HB3.out)
    clear hAh hbl hacts hl hcutA hEr hb3
    by_cases hx : y0 = kw
    · have hq : (y0.toList == kw.toList) = true := by rw [bytes_eq]; exact decide_eq_true hx
      cases ha : actsB acts
      · have HPf : Hid (textK kw.data.toList steO s.data.toList = ([], [], 11)) := Lib.hid (by rw [HL3.out, HX0.out, HP.out, ha, if_neg (by simp)])
        rw [ha] at HCk
        clear hx ha
        go_wp2_with fail
        refine HCk.out.mono ?_
        rintro e w' ⟨rfl, rfl⟩
        go_wp2
        go_ret3
        exact ⟨HB3.out, .inl ⟨11, by omega, HPf.out, rfl⟩⟩
      · have hac8 := ((actsB_iff acts).1 ha).1
        have HACT := Lib.hid ha
        have HP3 : Hid (textK kw.data.toList steO s.data.toList = match rowsK steO acts 0 ls with
          | none => ([], [], 11)
          | some ss => (acts, ss, 0)) := Lib.hid (by rw [HL3.out, HX0.out, HP.out, if_pos ⟨hx, ha⟩]; simp only []; cases rowsK steO acts 0 ls <;> rfl)
        rw [ha] at HCk
        obtain ⟨al, hcutL, hcutLA, _⟩ := cut_from HAw.out 1 hN1
        simp only [Int.natCast_one] at hcutL
        have HLi := Lib.hid (hcutLA.below HB13.out)
        have hNw : N - 1 = ls.length := by have := HL2'.out; omega
        have HNw := Lib.hid hNw
        clear hx ha hcutLA hNw
        go_wp2_with fail
        refine HCk.out.mono ?_
        rintro e w' ⟨rfl, rfl⟩
        go_wp2
        go_loopw [12, 13, 14, 15, 16, 17, 44] (fun v _ _ _ _ _ i wr => ∃ (x : Nat) (ss : List Ste), i = .int .i64 x ∧ x ≤ N - 1 ∧ StesOwn wr w3.heap.size v ss ∧ Below w3.heap.size w3 wr ∧ Hid (ss.length = x ∧ (∀ k, k < x → ∃ r, ss[k]? = some r ∧ rowK steO acts (0 + k) (ls.getD k []) = some r) ∧ ∀ k, k < x → Fits (teAt ss k).1 ∧ Fits (teAt ss k).2)) (fun _ _ _ _ _ _ i _ => N - (intOf i).toNat)
        case atStart => exact ⟨0, [], rfl, Nat.zero_le _, StesOwn.none _ _, Below.refl _ _, Lib.hid ⟨rfl, fun k hk => by omega, fun k hk => by omega⟩⟩
        case round =>
          obtain ⟨x, ss, rfl, hx, hrows, hb, hss⟩ := hrel
          have HR := Lib.hid hrows
          have HB := Lib.hid hb
          have hzr := hb.size
          clear hrows hb
          by_cases hlt : x < N - 1
          · obtain ⟨bl, ol, rfl, c1⟩ := (HLi.out.below HB.out).cells x (by rw [List.length_drop]; have := HN.out; omega)
            obtain ⟨L, HLe⟩ : ∃ L, Hid (at_ (ws.drop 1) x = L) := ⟨_, Lib.hid rfl⟩
            change wr.cell? _ = some (.string (at_ (ws.drop 1) x)) at c1
            rw [HLe.out] at c1
            have HLd : Hid (L.data.toList = ls.getD x []) := Lib.hid (by
              rw [← HLe.out, HL1.out]
              unfold at_
              have hx1 : x < ls.length := by have := HNw.out; omega
              rw [List.getD_eq_getElem?_getD, List.getElem?_map, List.getElem?_eq_getElem hx1, List.getD_eq_getElem?_getD, List.getElem?_eq_getElem hx1]
              simp [mk])
            have hLs : L.size ≤ 1000000 := by
              rw [← HLe.out]
              have : at_ (ws.drop 1) x = at_ ws (1 + x) := by simp [at_, List.getD, Nat.add_comm]
              rw [this]
              exact HSz.out _ (at_in _ _ (by have := HN.out; omega))
            have HEr := Lib.hid (HE3.out.below HB.out)
            obtain ⟨r, hr1, hr2, hr3, hr4⟩ := rowK_eq steO acts x L
            rw [HLd.out] at hr4
            have HSpr := split_any 32 L hLs wr HEr.out
            have hK2 := spB_count 32 L
            have hKsz : ∀ y ∈ spB 32 L, y.size ≤ 9223372036854775807 := fun y hy => Nat.le_trans (spB_size hy) (by omega)
            obtain ⟨wd, HWD⟩ : ∃ wd, Hid (spB 32 L = wd) := ⟨_, Lib.hid rfl⟩
            rw [HWD.out] at hr1 hr2 hr4 HSpr hK2 hKsz
            obtain ⟨K, HK⟩ : ∃ K, Hid (wd.length = K) := ⟨_, Lib.hid rfl⟩
            rw [HK.out] at hr2 HSpr hK2
            have HSpr := Lib.hid HSpr
            have hK1 : 0 < K := by omega
            have hK0 : (0 : Int) < K := by omega
            have hAd := strs_new wr wd (by have := HK.out; omega) hKsz
            rw [HK.out] at hAd
            have hbs := (Below.refl wr.heap.size wr).alloc (Nat.le_refl _) (.cells (wd.map Value.string).toArray 9)
            obtain ⟨wS, HWS'⟩ : ∃ z, Hid (wr.alloc (.cells (wd.map Value.string).toArray 9) = z) := ⟨_, Lib.hid rfl⟩
            rw [HWS'.out] at hAd hbs
            obtain ⟨ad, hcutD, hcutDA, _⟩ := cut_from hAd 1 hK1
            simp only [Int.natCast_one] at hcutD
            rw [hr1] at hcutDA
            obtain ⟨z0, HZ0⟩ : ∃ z, Hid (at_ wd 0 = z) := ⟨_, Lib.hid rfl⟩
            have cd : wS.cell? ⟨wr.heap.size, 0, none⟩ = some (.string z0) := by
              obtain ⟨b, off, e, hc⟩ := hAd.cells 0 (by have := HK.out; omega)
              cases e
              rw [← HZ0.out]
              change wS.cell? _ = some (.string (at_ wd 0)) at hc
              simpa using hc
            rw [HZ0.out] at hr4
            have HR4 := Lib.hid hr4
            have hzS := hbs.size
            have HBS := Lib.hid (HB.out.trans (hbs.mono hzr))
            have HPS := Lib.hid (spParseState_any (r := r) (HE3.out.below HBS.out) (HAc.out.below HBS.out) hcutDA HACT.out (by omega) (fun y hy => by have := hr3 y hy; omega))
            have HRS := Lib.hid (HR.out.below hbs)
            clear hr1 hr2 hr3 hr4 hKsz hAd hbs hcutDA
            go_wp2_with fail
            refine HSpr.out.mono ?_
            rintro e w' ⟨rfl, rfl⟩
            rw [HWS'.out]
            go_wp2_with fail
            refine HPS.out.mono ?_
            rintro e wA ⟨hbA, hcase⟩
            have HbA := Lib.hid hbA
            have hzA := hbA.size
            have cA := up_cell hbA cd
            have HBA := Lib.hid (HBS.out.trans (hbA.mono HBS.out.size))
            clear hbA
            rcases hcase with ⟨hno, pa, pn, pc, qa, qn, qc, rfl⟩ | ⟨es, p, q, hyes, rfl, hP, hQ, hel⟩
            · have HPf : Hid (textK kw.data.toList steO s.data.toList = ([], [], 11)) := Lib.hid (by
                rw [HP3.out, rowsK_bad ls 0 x (by have := HNw.out; omega) (by rw [Nat.zero_add, HR4.out, hno]; split <;> rfl)])
              clear hno
              go_wp2
              refine wp_region_quiet_below (by kernel_rfl) (by kernel_rfl) ?_
              repeat (go_big_quiet_step (fail))
              refine wpQuiet_nil ?_
              intro _ hw'
              obtain ⟨⟨dq, osq⟩, hw''⟩ := hw'
              subst hw''
              have hq1 := below_two ((Below.refl _ wA).alloc (Nat.le_refl _) (.cells #[.slice pa pn pc, .slice qa qn qc] 101)) (below_regrown (wA.alloc (.cells #[.slice pa pn pc, .slice qa qn qc] 101)) dq osq)
              go_wp2
              go_ret3
              exact ⟨HB3.out.trans ((HBA.out.trans (hq1.mono HBA.out.size)).mono HB3.out.size), .inl ⟨11, by omega, HPf.out, rfl⟩⟩
            · obtain ⟨pa, pc, rfl⟩ := own_slice' hP
              obtain ⟨qa, qc, rfl⟩ := own_slice' hQ
              have HI := fun (W : World) (hb : Below wA.heap.size wA W) => itoa_any x (by omega) W ((HE3.out.below HBA.out).below hb)
              obtain ⟨D, HD⟩ : ∃ D, Hid (mk (Lib.decDigits x) = D) := ⟨_, Lib.hid rfl⟩
              rw [HD.out] at HI
              have HI := Lib.hid HI
              have hD : D.size ≤ 21 := by rw [← HD.out, mk_size']; exact dec_length x (by omega)
              have hcol : (⟨#[58]⟩ : ByteArray).size = 1 := rfl
              have HR5 : Hid (rowK steO acts x (ls.getD x []) = if z0 = D ++ (⟨#[58]⟩ : ByteArray) then some es else none) := Lib.hid (by
                rw [HR4.out, hyes, ← HD.out, show (⟨#[58]⟩ : ByteArray) = mk [58] from rfl, mk_add])
              have HEo := Lib.hid hP
              have HFo := Lib.hid hQ
              have hadd1 : ¬ 9223372036854775807 < D.size + 1 := by omega
              have hadd2 : ¬ 9223372036854775807 < D.size + (⟨#[58]⟩ : ByteArray).size := by omega
              have cA' : (wA.alloc (.cells #[.slice pa es.1.length pc, .slice qa es.2.length qc] 101)).cell? ⟨wr.heap.size, 0, none⟩ = some (.string z0) := cell_new cA _
              clear hyes hP hQ
              by_cases hx : z0 = D ++ (⟨#[58]⟩ : ByteArray)
              · have hq : (z0.toList == (D ++ (⟨#[58]⟩ : ByteArray)).toList) = true := by rw [bytes_eq]; exact decide_eq_true hx
                have HR6 : Hid (rowK steO acts x (ls.getD x []) = some es) := Lib.hid (by rw [HR5.out, if_pos hx])
                clear hx
                go_wp2
                go_region_held3 (fun w' => w'.cell? ⟨wr.heap.size, 0, none⟩ = some (.string z0))
                  ((first | assumption | go_keep))
                  (first | (go_at_call 69; refine (HI.out _ (by first | exact ((Below.refl _ wA).alloc (Nat.le_refl _) _).drew | exact (Below.refl _ wA).alloc (Nat.le_refl _) _)).mono ?_; rintro e wI ⟨rfl, hbI⟩; have kI := up_cell hbI cA'; have kB := up_whole hbI (show Whole _ wA.heap.size 101 #[.slice pa es.1.length pc, .slice qa es.2.length qc] from Whole.new wA _ _)))
                have hbI' : Below wA.heap.size wA wI := by first | exact below_two ((Below.refl _ wA).alloc (Nat.le_refl _) (.cells #[.slice pa es.1.length pc, .slice qa es.2.length qc] 101)) hbI | exact below_two ((Below.refl _ wA).alloc (Nat.le_refl _) (.cells #[.slice pa es.1.length pc, .slice qa es.2.length qc] 101)).drew hbI
                have hzI := hbI'.size
                have HBI := Lib.hid (HBA.out.trans (hbI'.mono HBA.out.size))
                have hRI := (HRS.out.below HbA.out).below hbI'
                have hEI : NumO wI w3.heap.size (.slice pa es.1.length pc) es.1 := own_low (own_up' HEo.out hbI') HBS.out.size
                have hFI : NumO wI w3.heap.size (.slice qa es.2.length qc) es.2 := own_low (own_up' HFo.out hbI') HBS.out.size
                obtain ⟨rows, r1, r2, r3⟩ := hRI
                obtain ⟨bb, cc, rfl⟩ := own_slice' r2
                have HOW := Lib.hid (r2.alloc (.cells #[.slice pa es.1.length pc, .slice qa es.2.length qc] 101))
                have HRI : Hid (StesOwn (wI.alloc (.cells #[.slice pa es.1.length pc, .slice qa es.2.length qc] 101)) w3.heap.size (.slice bb ss.length cc) ss) := Lib.hid ((StesOwn.alloc ⟨rows, r1, r2, r3⟩ _))
                have HEI := Lib.hid (NumO.alloc hEI (.cells #[.slice pa es.1.length pc, .slice qa es.2.length qc] 101))
                have HFI := Lib.hid (NumO.alloc hFI (.cells #[.slice pa es.1.length pc, .slice qa es.2.length qc] 101))
                have hssl : ss.length ≤ 1000000 := by have := hss.out.1; omega
                have HG : Hid ((ss ++ [es]).length = x + 1 ∧ (∀ k, k < x + 1 → ∃ r, (ss ++ [es])[k]? = some r ∧ rowK steO acts (0 + k) (ls.getD k []) = some r) ∧ ∀ k, k < x + 1 → Fits (teAt (ss ++ [es]) k).1 ∧ Fits (teAt (ss ++ [es]) k).2) := Lib.hid (by
                  obtain ⟨h1, h2, h3⟩ := hss.out
                  refine ⟨by simp [h1], fun k hk => ?_, fun k hk => ?_⟩
                  · by_cases e : k = x
                    · subst e
                      exact ⟨es, by rw [← h1]; simp, by rw [Nat.zero_add]; exact HR6.out⟩
                    · obtain ⟨r', g1, g2⟩ := h2 k (by omega)
                      exact ⟨r', by rw [List.getElem?_append_left (by omega)]; exact g1, g2⟩
                  · by_cases e : k = x
                    · subst e
                      rw [← h1, teAt_snoc]; exact hel
                    · rw [teAt_app _ _ _ (by omega)]; exact h3 k (by omega))
                have kB0 := kB.cell 0
                have kB1 := kB.cell 1
                have kBl := kB.lt
                simp only [List.getElem?_toArray, List.getElem?_cons_succ, List.getElem?_cons_zero] at kB0 kB1
                clear kI hbI hbI' hEI hFI r1 r2 r3 kB
                go_wp2_with (at_builtin; (refine wpList_append_sz rfl (.tmp 70) (.tmp 72) 38 rfl w3.heap.size 101 i2 (.agg #[.slice none 0 0, .slice none 0 0]) 2 48 Tryz.underlying38 hi2 hz20 hz21 hz22 rfl (by decide) (.slice bb ss.length cc) rfl ss.length (rcells rows) HOW.out (some ⟨wI.heap.size, 0, none⟩) 1 1 rfl [.slice pa es.1.length pc, .slice qa es.2.length qc] (fun h => by cases h) rfl (pair_src _ _ _ _) (by simp [Value.oneCell']) (by unfold maxLen; omega) (by omega) (by have := HBI.out.size; simp; omega) ?_); intro v2 wB hB hgB hatB; refine Hid.out ?_)
                refine Lib.hid ?_
                obtain ⟨vb, vd, rfl⟩ := own_slice' hB
                have HRn := Lib.hid (HRI.out.snoc (v' := .slice vb (ss.length + 1) vd) HEI.out HFI.out hgB (fun rows' e1 e2 => by
                  rw [own_eq e1 HOW.out]; exact hB))
                have HBn := Lib.hid ((HBI.out.alloc HBI.out.size (.cells #[.slice pa es.1.length pc, .slice qa es.2.length qc] 101)).grown hgB (by have := HBI.out.size; simp; omega) (own_ge HOW.out))
                clear hB hgB hatB
                go_wp2
                go_roundw
                case rel => exact ⟨x + 1, ss ++ [es], by go_num, by omega, HRn.out, HBn.out, HG⟩
                case measure => simp [intOf]; omega
              · have hq : (z0.toList == (D ++ (⟨#[58]⟩ : ByteArray)).toList) = false := by rw [bytes_eq]; exact decide_eq_false hx
                have HPf : Hid (textK kw.data.toList steO s.data.toList = ([], [], 11)) := Lib.hid (by
                  rw [HP3.out, rowsK_bad ls 0 x (by have := HNw.out; omega) (by rw [Nat.zero_add, HR5.out, if_neg hx])])
                clear hx
                go_wp2
                go_region_held3 (fun w' => w'.cell? ⟨wr.heap.size, 0, none⟩ = some (.string z0))
                  ((first | assumption | go_keep))
                  (first | (go_at_call 69; refine (HI.out _ (by first | exact ((Below.refl _ wA).alloc (Nat.le_refl _) _).drew | exact (Below.refl _ wA).alloc (Nat.le_refl _) _)).mono ?_; rintro e wI ⟨rfl, hbI⟩; have kI := up_cell hbI cA'; have kB := up_whole hbI (show Whole _ wA.heap.size 101 #[.slice pa es.1.length pc, .slice qa es.2.length qc] from Whole.new wA _ _)))
                have hbI' : Below wA.heap.size wA wI := by first | exact below_two ((Below.refl _ wA).alloc (Nat.le_refl _) (.cells #[.slice pa es.1.length pc, .slice qa es.2.length qc] 101)) hbI | exact below_two ((Below.refl _ wA).alloc (Nat.le_refl _) (.cells #[.slice pa es.1.length pc, .slice qa es.2.length qc] 101)).drew hbI
                have HBI := Lib.hid (HBA.out.trans (hbI'.mono HBA.out.size))
                clear kI hbI hbI' kB
                go_wp2
                go_ret3
                exact ⟨HB3.out.trans (HBI.out.mono HB3.out.size), .inl ⟨11, by omega, HPf.out, rfl⟩⟩
          · have hx1 : x = ls.length := by have := HNw.out; omega
            have HRow : Hid (rowsK steO acts 0 ls = some ss) := Lib.hid (rowsK_good ls 0 ss (by rw [hss.out.1]; exact hx1) (fun k hk => hss.out.2.1 k (by omega)))
            have HPf : Hid (textK kw.data.toList steO s.data.toList = (acts, ss, 0)) := Lib.hid (by rw [HP3.out, HRow.out])
            have hssl : ss.length ≤ 1000000 := by have := hss.out.1; omega
            obtain ⟨rows, r1, r2, r3⟩ := HR.out
            obtain ⟨bb, cc, rfl⟩ := own_slice' r2
            clear r1 r2 r3
            go_wp2
            go_ret3
            exact ⟨HB3.out.trans (HB.out.mono HB3.out.size), .inr ⟨acts, ss, ah, M - 1, _, HPf.out, by rw [HLn.out]; rfl, by have := HAc.out.below HB.out; rw [HLn.out] at this ⊢; exact this, HBL.out, HR.out.low HB3.out.size, fun i hi => hss.out.2.2 i (by rw [← hss.out.1]; exact hi), hssl, HACT.out⟩⟩
    · have hq : (y0.toList == kw.toList) = false := by rw [bytes_eq]; exact decide_eq_false hx
      have HPf : Hid (textK kw.data.toList steO s.data.toList = ([], [], 11)) := Lib.hid (by rw [HL3.out, HX0.out, HP.out, if_neg (fun h => hx h.1)])
      clear hx
      go_wp2
      go_ret3
      exact ⟨HB3.out, .inl ⟨11, by omega, HPf.out, rfl⟩⟩
end Go.Proofs.YtpmbijlldoiplaaGreatDoor
/- spec.Parse. -/
namespace Go.Proofs.YtpmbijlldoiplaaGreatDoor
open Go.RowKit Pl

theorem stes_stored {w : World} {base g : Nat} {vs x y u v : Value} {ss : List Ste} (h : StesOwn w base vs ss) (hw : Whole w g 40 #[x, y]) :
    StesOwn ((w.setCell ⟨g, 0, none⟩ u).setCell ⟨g, 1, none⟩ v) base vs ss := by
  have s1 := h.kept (grown_self w ⟨g, 0, none⟩ u) (.inr (own_whole h.choose_spec.2.1 hw (by decide)).symm) (fun r l hr => .inr (own_whole hr hw (by decide)).symm)
  have hw1 := hw.set 0 u
  exact s1.kept (grown_self _ ⟨g, 1, none⟩ v) (.inr (own_whole s1.choose_spec.2.1 hw1 (by decide)).symm) (fun r l hr => .inr (own_whole hr hw1 (by decide)).symm)
theorem spc_nil (w : World) : SpecArg w none 0 0 none 0 0 noSpc := by
  refine ⟨⟨fun _ => rfl, rfl, Nat.le_refl _, by omega, fun k hk => by simp at hk, fun j hj => by simp [noSpc] at hj⟩, by omega, fun _ => rfl, rfl, Nat.le_refl _, by omega, fun i hi => by simp [noSpc] at hi⟩

set_option maxRecDepth 100000 in
set_option maxHeartbeats 8000000 in
theorem SpParse_any (s : ByteArray) (hs : s.size ≤ 9223372036854775807) (w : World) (E : Env w) :
    Calls Tryz.prog 23 #[.string s] w fun e w' => ∃ a n c b k d, e = .returned (.tuple #[.agg #[.slice a n c, .slice b k d], .int .i64 (parseSp s.data.toList).2]) ∧ SpecArg w' a n c b k d (parseSp s.data.toList).1 ∧ Below w.heap.size w w' := by
  have HE := Lib.hid E
  clear E
  have hb1 := (Below.refl w.heap.size w).alloc (Nat.le_refl _) (.cells #[.slice none 0 0, .slice none 0 0] 40)
  have hres := Whole.new w 40 #[.slice none 0 0, .slice none 0 0]
  have HPT := Lib.hid (SpPText_any ⟨#[115, 112, 101, 99]⟩ s hs _ (HE.out.below hb1))
  have HB1 := Lib.hid hb1
  have HRes := Lib.hid hres
  clear hb1 hres
  go_enter Tryz.func23, Tryz.ntmps23
  go_wp2_with fail
  refine HPT.out.mono ?_
  rintro e w2 ⟨hb2, hcase⟩
  have hz2 : w.heap.size < w2.heap.size := by have := hb2.size; simp at this; omega
  have hres2 := HRes.out.below hb2 HRes.out.lt
  have r0 := hres2.cell 0
  have r1 := hres2.cell 1
  have f0 := hres2.frozen 0
  have f1 := hres2.frozen 1
  have HR2 := Lib.hid hres2
  simp only [List.getElem?_toArray, List.getElem?_cons_succ, List.getElem?_cons_zero] at r0 r1
  have HBw := Lib.hid (HB1.out.trans (hb2.mono HB1.out.size))
  clear hb2 hres2
  rcases hcase with ⟨cd, hne, ht, rfl⟩ | ⟨acts, ss, a, c, vs, ht, rfl, hAc, hbl, hRw, hst, hsl, hact⟩
  · have HP : Hid (parseSp s.data.toList = (noSpc, cd)) := Lib.hid (parseSp_bad ht hne)
    have hq : ((cd : Int) != 0) = true := by rw [bne_iff_ne]; exact hne
    have g0 := (HR2.out.set 0 (.slice none 0 0)).cell 0
    have g1 := ((HR2.out.set 0 (.slice none 0 0)).set 1 (.slice none 0 0)).cell 1
    simp only [List.setIfInBounds_toArray, List.set_cons_zero, List.set_cons_succ, List.getElem?_toArray, List.getElem?_cons_succ, List.getElem?_cons_zero] at g0 g1
    have HBe := Lib.hid ((HBw.out.setCell (p := ⟨w.heap.size, 0, none⟩) (Nat.le_refl _) (.slice none 0 0)).setCell (p := ⟨w.heap.size, 1, none⟩) (Nat.le_refl _) (.slice none 0 0))
    clear ht hne
    go_wp2
    exact bodyPost_ret (v := .tuple #[.agg #[.slice none 0 0, .slice none 0 0], .int .i64 cd]) (by simp [results, Tryz.results23, go_sem, g0, g1]) rfl ⟨none, 0, 0, none, 0, 0, by rw [HP.out], by rw [HP.out]; exact spc_nil _, HBe.out⟩
  · obtain ⟨bb, cc, rfl, hd, hnil, hrows⟩ := hRw.arg (hst)
    have HST : Hid (∀ i, i < ss.length → Fits (teAt ss i).1 ∧ Fits (teAt ss i).2) := Lib.hid hst
    have hbo : Below w2.heap.size w2 (w2.alloc (.cells #[.slice a acts.length c, .slice bb ss.length cc] 40)) := (Below.refl _ w2).alloc (Nat.le_refl _) _
    have hbox := Whole.new w2 40 #[.slice a acts.length c, .slice bb ss.length cc]
    have hac8 := ((actsB_iff acts).1 hact).1
    have hAg : SpecArg (w2.alloc (.cells #[.slice a acts.length c, .slice bb ss.length cc] 40)) a acts.length c bb ss.length cc ⟨acts, ss⟩ := ⟨hAc.below hbo, by omega, hnil, rfl, hd, by omega, hrows.below hbo⟩
    have HKo := Lib.hid ht
    obtain ⟨e0, e1, e2, hErr⟩ := (HE.out.below (HBw.out.trans (hbo.mono HBw.out.size))).errs
    have HCk := Lib.hid (PCheck_any hErr hAg)
    have HAc := Lib.hid hAc
    have HRw := Lib.hid hRw
    have HBo := Lib.hid hbo
    have HBox := Lib.hid hbox
    have HBL : Hid (∀ ad, a = some ad → ad.block ≠ w.heap.size) := Lib.hid fun ad e => by have := hbl ad e; simp at this; omega
    clear hd hnil hrows hst hbo hbox hAg hErr hAc hRw ht hbl hact
    go_wp2_with fail
    refine HCk.out.mono ?_
    rintro e wC ⟨rfl, hbC⟩
    have hzC : w2.heap.size < wC.heap.size := by have := hbC.size; simp at this; omega
    have hb2C := HBo.out.trans (hbC.mono HBo.out.size)
    have hrC := HR2.out.below hb2C HR2.out.lt
    have hbT := HBw.out.trans (hb2C.mono HBw.out.size)
    have hbx := HBox.out.below hbC HBox.out.lt
    have k0 := hbx.cell 0
    have k1 := hbx.cell 1
    have HArg := Lib.hid (HRw.out.below hb2C)
    have HStr := Lib.hid (HAc.out.below hb2C)
    have q0 := hrC.cell 0
    have q1 := hrC.cell 1
    have q2 := hrC.frozen 0
    have q3 := hrC.frozen 1
    have q4 := hrC.lt
    have HrC := Lib.hid hrC
    simp only [List.getElem?_toArray, List.getElem?_cons_succ, List.getElem?_cons_zero] at k0 k1 q0 q1
    clear hbC hb2C hbx
    by_cases hck : spcB ⟨acts, ss⟩ = true
    · have HP : Hid (parseSp s.data.toList = (⟨acts, ss⟩, 0)) := Lib.hid (parseSp_yes HKo.out hck)
      rw [chkS_yes hck]
      have g0 := (hrC.set 0 (.slice a acts.length c)).cell 0
      have g1 := ((hrC.set 0 (.slice a acts.length c)).set 1 (.slice bb ss.length cc)).cell 1
      simp only [List.setIfInBounds_toArray, List.set_cons_zero, List.set_cons_succ, List.getElem?_toArray, List.getElem?_cons_succ, List.getElem?_cons_zero] at g0 g1
      have HBe := Lib.hid ((hbT.setCell (p := ⟨w.heap.size, 0, none⟩) (Nat.le_refl _) (.slice a acts.length c)).setCell (p := ⟨w.heap.size, 1, none⟩) (Nat.le_refl _) (.slice bb ss.length cc))
      have HFin : Hid (SpecArg ((wC.setCell ⟨w.heap.size, 0, none⟩ (.slice a acts.length c)).setCell ⟨w.heap.size, 1, none⟩ (.slice bb ss.length cc)) a acts.length c bb ss.length cc ⟨acts, ss⟩) := Lib.hid (by
        obtain ⟨b', d', e, hd, hnil, hrows⟩ := (stes_stored (u := .slice a acts.length c) (v := .slice bb ss.length cc) HArg.out hrC).arg HST.out
        cases e
        exact ⟨strs_stored HStr.out HBL.out, by omega, hnil, rfl, hd, by omega, hrows⟩)
      clear hrC hbT hck
      go_wp2
      exact bodyPost_ret (v := .tuple #[.agg #[.slice a acts.length c, .slice bb ss.length cc], .int .i64 0]) (by simp [results, Tryz.results23, go_sem, g0, g1]) rfl ⟨a, acts.length, c, bb, ss.length, cc, by rw [HP.out], by rw [HP.out]; exact HFin.out, HBe.out⟩
    · have HP : Hid (parseSp s.data.toList = (noSpc, 30)) := Lib.hid (parseSp_no HKo.out (by simpa using hck))
      rw [chkS_no (by simpa using hck)]
      have g0 := (hrC.set 0 (.slice none 0 0)).cell 0
      have g1 := ((hrC.set 0 (.slice none 0 0)).set 1 (.slice none 0 0)).cell 1
      simp only [List.setIfInBounds_toArray, List.set_cons_zero, List.set_cons_succ, List.getElem?_toArray, List.getElem?_cons_succ, List.getElem?_cons_zero] at g0 g1
      have HBe := Lib.hid ((hbT.setCell (p := ⟨w.heap.size, 0, none⟩) (Nat.le_refl _) (.slice none 0 0)).setCell (p := ⟨w.heap.size, 1, none⟩) (Nat.le_refl _) (.slice none 0 0))
      clear hrC hbT hck
      go_wp2
      exact bodyPost_ret (v := .tuple #[.agg #[.slice none 0 0, .slice none 0 0], .int .i64 30]) (by simp [results, Tryz.results23, go_sem, g0, g1]) rfl ⟨none, 0, 0, none, 0, 0, by rw [HP.out], by rw [HP.out]; exact spc_nil _, HBe.out⟩
end Go.Proofs.YtpmbijlldoiplaaGreatDoor
