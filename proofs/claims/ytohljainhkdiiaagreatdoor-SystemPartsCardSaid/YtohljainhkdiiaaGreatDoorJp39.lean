/- Texts joined: SpText, SpSStr, RSpc3, SpVend. -/
import Derived.Test.YtohljainhkdiiaaGreatDoorJp20
import Derived.Test.YtohljainhkdiiaaGreatDoorJp12
import Derived.Deep.RegionHeld3
import Derived.Test.YtohljainhkdiiaaGreatDoorJp15
import Derived.Test.YtohljainhkdiiaaGreatDoorJp26
import Derived.Test.YtohljainhkdiiaaGreatDoorJp04
import Derived.Lib.QuietBelow
import Derived.Test.YtohljainhkdiiaaGreatDoorJp24
import Derived.Test.YtohljainhkdiiaaGreatDoorJp38
/- terms.Text, as spec.String calls it. -/
namespace Go.Proofs.YtohljainhkdiiaaGreatDoor
open Go.RowKit Pl

/-- where Text stands behind x states -/
def textY (s : Spc) (x : Nat) : List UInt8 := objK bSpec s.acts (s.states.map (steW s.acts)) x
theorem words_at (s : Spc) {x : Nat} (hx : x < s.states.length) : (s.states.map (steW s.acts)).getD x [] = steW s.acts (teAt s.states x) := by
  unfold teAt
  rw [List.getD_eq_getElem?_getD, List.getElem?_map, List.getElem?_eq_getElem hx, List.getD_eq_getElem?_getD, List.getElem?_eq_getElem hx]
  rfl
theorem textY_next (s : Spc) {x : Nat} (hx : x < s.states.length) : textY s (x + 1) = textY s x ++ ((Lib.decDigits x ++ [58] ++ blanks (steW s.acts (teAt s.states x))) ++ [10]) := by
  unfold textY
  rw [objK_next, words_at s hx]
  rfl
theorem headL_len {acts : List ByteArray} (ha : actsB acts = true) : (headL bSpec acts).length ≤ 200 := by
  have h3 := heads_len (acts := acts) (fun a h => acts_len ha a h)
  have h2 := ((actsB_iff acts).1 ha).1
  unfold headL
  simp only [List.length_append, bSpec, List.length_cons, List.length_nil] at h3 ⊢
  omega
theorem textY_len {s : Spc} (hv : spcB s = true) (h : ∀ i, i < s.states.length → ∀ z ∈ (teAt s.states i).1, z ≤ 9223372036854775807) : ∀ x, x ≤ s.states.length → (textY s x).length ≤ 201 + 60023 * x
  | 0, _ => by
    have := headL_len ((spcB_iff s).1 hv).1
    simp [textY, objK]; omega
  | x + 1, hx => by
    have ih := textY_len hv h x (by omega)
    have h5 := ((spcB_iff s).1 hv).2.2.1
    have h1 := (steLine_of hv (x := x) (by omega) (h x (by omega))).b (Nat.le_refl _)
    rw [lineB_all] at h1
    have h2 := dec_length x (by omega)
    rw [textY_next s (by omega)]
    simp only [List.length_append, List.length_cons, List.length_nil]
    omega

theorem pack_s {w : World} {g : Nat} {t : TypeId} {x y : Value} (h : Whole w g t #[x, y]) : Whole w g t #[x, y] ∧ w.cell? ⟨g, 0, none⟩ = some x ∧ w.cell? ⟨g, 1, none⟩ = some y := ⟨h, h.cell 0, h.cell 1⟩
set_option maxRecDepth 100000 in
set_option maxHeartbeats 4000000 in
theorem SpText_any {w : World} {a : Option Addr} {n c : Nat} {b : Option Addr} {k d : Nat} {s : Spc} {g : Nat} (kw : ByteArray) (hkw : kw = mk bSpec) (E : Env w) (T : Tab w) (A : SpecArg w a n c b k d s) (hv : spcB s = true)
    (hg : Whole w g 40 #[.slice a n c, .slice b k d]) :
    Calls Tryz.prog 77 #[.string kw, .slice a n c, .slice b k d, .func (.func 78) #[] #[.pointer (some ⟨g, 0, none⟩)]] w fun e w' => e = .returned (.string (mk (strSp s))) ∧ Below w.heap.size w w' := by
  obtain ⟨i0, hi, hz0, hz1, hz2⟩ := info_parts infoString
  have HA := Lib.hid A
  have HE := Lib.hid E
  have HS := Lib.hid hv
  have HTb := Lib.hid T
  have HRg : Hid (∀ i, i < s.states.length → ∀ z ∈ (teAt s.states i).1, z ≤ 9223372036854775807) := Lib.hid fun i hi => by
    obtain ⟨_, _, _, _, _, _, _, _, _, _, _, h1, _⟩ := A.rows i hi
    exact h1.le
  have HG := Lib.hid hg
  have hs := (spcB_iff s).1 hv
  have hn8 : n ≤ 8 := by have := ((actsB_iff s.acts).1 hs.1).1; have := A.acts.len; omega
  have hk5 : k ≤ 500 := by have := A.len; omega
  have HKW := Lib.hid hkw
  have hB1 := (Below.refl w.heap.size w).alloc (Nat.le_refl _) (.cells #[.pointer none, .slice none 0 0] 125)
  have hB2 := hB1.alloc (by simp) (.cells #[.string kw] 9)
  have hw0 := (Whole.new w 125 #[.pointer none, .slice none 0 0]).alloc (.cells #[.string kw] 9)
  have hlit := World.ownsRow_lit (base := w.heap.size) (e := 9) (size := 1) (w.alloc (.cells #[.pointer none, .slice none 0 0] 125)) #[.string kw] 1 (by simp) (by unfold maxLen; omega) rfl
  simp only [World.size_alloc] at hlit
  have HSrc := Lib.hid (strs_src (A.acts.below hB2))
  have HNil := Lib.hid A.acts.nils
  have HL : Hid ((s.acts.map Value.string).length = n * 1) := Lib.hid (by have := A.acts.len; simp; omega)
  have HB2 := Lib.hid hB2
  have HW0 := Lib.hid hw0
  have HLit := Lib.hid hlit
  clear hs A E T hv hg hkw hB1 hB2 hw0 hlit
  go_enter Tryz.func77, Tryz.ntmps77
  go_wp2_with (at_builtin; (refine wpList_append_sz rfl (.tmp 13) (.tmp 14) 22 rfl w.heap.size 9 i0 (.string ⟨#[]⟩) 1 16 Tryz.underlying22 hi hz0 hz1 hz2 rfl (by decide) (.slice (some ⟨w.heap.size + 1, 0, none⟩) 1 1) rfl 1 [.string kw] HLit.out a n c rfl (s.acts.map Value.string) HNil.out HL.out HSrc.out (strs_one _) (by unfold maxLen; omega) (by omega) (by simp; omega) ?_); intro va w1 hva hg1 hat1; refine Hid.out ?_)
  refine Lib.hid ?_
  obtain ⟨aa, ca, rfl⟩ := own_slice hva
  have hb1 := HB2.out.grown hg1 (by simp; omega) (fun k hk => by simp [Value.ownBlock] at hk; omega)
  have x0 := HW0.out.grown hg1 (fun h => by simp [Value.ownBlock] at h)
  have HJ := Lib.hid (join_own (W := w1) kw s.acts (by have e : [Value.string kw] ++ s.acts.map Value.string = (kw :: s.acts).map Value.string := rfl; rw [← e]; exact hva) (by have := HA.out.acts.len; omega) (by omega) (by
    rw [HKW.out, join_head]
    have := headL_len ((spcB_iff s).1 HS.out).1
    unfold headL at this
    omega))
  have HBd := Lib.hid (bld_fresh x0)
  have HB1 := Lib.hid hb1
  have hzz1 := hb1.size
  have hx0l := x0.lt
  rw [HKW.out, join_head] at HJ
  clear hva hg1 hat1 hb1 x0
  obtain ⟨J, HJe⟩ : ∃ J, Hid (mk (bSpec ++ s.acts.flatMap (fun a => [32] ++ a.data.toList)) = J) := ⟨_, Lib.hid rfl⟩
  rw [HJe.out] at HJ
  have HJl : Hid (J.size ≤ 200) := Lib.hid (by
    rw [← HJe.out, mk_size']
    have := headL_len ((spcB_iff s).1 HS.out).1
    unfold headL at this
    exact this)
  have hJl := HJl.out
  have hnl : (⟨#[10]⟩ : ByteArray).size = 1 := rfl
  go_wp2_with fail
  refine HJ.out.mono ?_
  rintro e w2 ⟨rfl, hb2⟩
  have HWr := Lib.hid (write_any w.heap.size w.heap.size [] (J ++ (⟨#[10]⟩ : ByteArray)) w2 (HBd.out.up hb2) (by rw [ByteArray.size_append]; simp; omega) (Nat.le_trans hzz1 hb2.size))
  have HN0 : Hid ([] ++ (J ++ (⟨#[10]⟩ : ByteArray)).data.toList = textY s 0) := Lib.hid (by
    rw [← HJe.out]
    simp [ByteArray.data_append, mk, textY, objK, headL])
  rw [HN0.out] at HWr
  have HB2' := Lib.hid (HB1.out.trans (hb2.mono hzz1))
  clear hb2
  have hadd0 : ¬ 9223372036854775807 < J.size + 1 := by omega
  have hadd0' : ¬ 9223372036854775807 < J.size + (⟨#[10]⟩ : ByteArray).size := by omega
  go_wp2_with fail
  refine HWr.out.mono ?_
  rintro e w3 ⟨rfl, hB3, hb3, hk3⟩
  have HB3 := Lib.hid hB3
  have Hb3 := Lib.hid (HB2'.out.trans hb3)
  clear hB3 hb3 hk3 hadd0 hadd0'
  go_wp2
  go_loopw [10, 11, 21] (fun _ _ i wr => ∃ x : Nat, x ≤ k ∧ i = .int .i64 x ∧ Bld w.heap.size w.heap.size (textY s x) wr ∧ Below w.heap.size w wr) (fun _ _ i _ => k - (intOf i).toNat)
  case atStart => exact ⟨0, Nat.zero_le _, rfl, HB3.out, Hb3.out⟩
  case round =>
    obtain ⟨x, hx, rfl, hBx, hbx⟩ := hrel
    have HBx := Lib.hid hBx
    have Hbx := Lib.hid hbx
    have hzx := hbx.size
    clear hBx hbx
    by_cases hlt2 : x < k
    · obtain ⟨bx2, off2, rfl, a1, n1, c1, a2, n2, c2, d1, d2, hN1, hN2⟩ := HA.out.rows x (by have := HA.out.len; omega)
      have e1 : wr.cell? ⟨bx2, off2 + x * 2, none⟩ = some (.slice a1 n1 c1) := (Hbx.out.cell (lt_of_cell d1)).trans d1
      have e2 : wr.cell? ⟨bx2, off2 + x * 2 + 1, none⟩ = some (.slice a2 n2 c2) := (Hbx.out.cell (lt_of_cell d2)).trans d2
      have HN1 := Lib.hid hN1
      have HN2 := Lib.hid hN2
      clear d1 d2 hN1 hN2
      have hxk : x < s.states.length := by have := HA.out.len; omega
      have HI := Lib.hid (fun (W : World) (hb : Below wr.heap.size wr W) => itoa_any x (by omega) W ((HE.out.below Hbx.out).below hb))
      obtain ⟨D, HD⟩ : ∃ D, Hid (mk (Lib.decDigits x) = D) := ⟨_, Lib.hid rfl⟩
      rw [HD.out] at HI
      have hD : D.size ≤ 21 := by rw [← HD.out, mk_size']; exact dec_length x (by omega)
      have hcol : (⟨#[58]⟩ : ByteArray).size = 1 := rfl
      have HLi := fun (W : World) (hb : Below wr.heap.size wr W) => spLine_any (x := x) ((HE.out.below Hbx.out).below hb) ((HTb.out.below Hbx.out).below hb) ((HA.out.below Hbx.out).below hb) HS.out ((HG.out.below Hbx.out HG.out.lt).below hb (Nat.lt_of_lt_of_le HG.out.lt hzx)) hxk ((HN1.out.below Hbx.out).below hb) ((HN2.out.below Hbx.out).below hb)
      obtain ⟨Ls, HLs⟩ : ∃ Ls, Hid (mk (blanks (steW s.acts (teAt s.states x))) = Ls) := ⟨_, Lib.hid rfl⟩
      rw [HLs.out] at HLi
      have HLi := Lib.hid HLi
      have hLs : Ls.size ≤ 60000 := by
        rw [← HLs.out, mk_size', ← lineB_all]
        exact (steLine_of HS.out hxk (HRg.out x hxk)).b (Nat.le_refl _)
      have HN : Hid (textY s x ++ (D ++ (⟨#[58]⟩ : ByteArray) ++ Ls ++ (⟨#[10]⟩ : ByteArray)).data.toList = textY s (x + 1)) := Lib.hid (by
        rw [textY_next s hxk, ← HD.out, ← HLs.out]
        simp [ByteArray.data_append, mk])
      have HTl := Lib.hid (textY_len HS.out HRg.out x (by omega))
      have hadd1 : ¬ 9223372036854775807 < D.size + 1 := by omega
      have hadd2 : ¬ 9223372036854775807 < D.size + (⟨#[58]⟩ : ByteArray).size := by omega
      have hadd3 : ¬ 9223372036854775807 < (D ++ (⟨#[58]⟩ : ByteArray)).size + Ls.size := by rw [ByteArray.size_append]; omega
      have hadd4 : ¬ 9223372036854775807 < (D ++ (⟨#[58]⟩ : ByteArray) ++ Ls).size + 1 := by rw [ByteArray.size_append, ByteArray.size_append]; omega
      have hadd5 : ¬ 9223372036854775807 < (D ++ (⟨#[58]⟩ : ByteArray) ++ Ls).size + (⟨#[10]⟩ : ByteArray).size := by rw [ByteArray.size_append, ByteArray.size_append]; omega
      have hadd6 : ¬ 9223372036854775807 < D.size + 1 + Ls.size := by omega
      have hadd7 : ¬ 9223372036854775807 < D.size + 1 + Ls.size + 1 := by omega
      have hne : wr.heap.size ≠ w.heap.size := by have := bld_lt HBx.out; omega
      have hx0 : (0 : Int) ≤ (x : Int) := by omega
      have hx1 : (x : Int) < (k : Int) := by omega
      go_wp2
      go_region_held3 (fun w' => Whole w' wr.heap.size 87 #[.slice a1 n1 c1, .slice a2 n2 c2] ∧ w'.cell? ⟨wr.heap.size, 0, none⟩ = some (.slice a1 n1 c1) ∧ w'.cell? ⟨wr.heap.size, 1, none⟩ = some (.slice a2 n2 c2))
        ((refine pack_s ?_ <;> first | assumption | exact Whole.new _ _ _ | go_keep))
        (first
          | (go_at_call 64; (refine (write_any w.heap.size w.heap.size (textY s x) (D ++ (⟨#[58]⟩ : ByteArray) ++ Ls ++ (⟨#[10]⟩ : ByteArray)) _ (up_bld hbL (up_bld hWI HBx.out)) ?_ ?_).mono ?_; (simp only [ByteArray.size_append]; have := HTl.out; have : (⟨#[10]⟩ : ByteArray).size = 1 := rfl; omega); (have := hWI.size; have := hbL.size; omega); rw [HN.out]; rintro e wW ⟨rfl, hBW, hbW, hkW⟩; have kW0 := hkW wr.heap.size _ _ hne (by decide) kL0))
          | (go_at_call 78; (refine (HLi.out _ hWI).mono ?_; rintro e wL ⟨rfl, hbL⟩; have kL0 := up_whole hbL kI0))
          | (go_at_call 65; (refine (HI.out _ ?_).mono ?_; (first | exact ((Below.refl _ wr).alloc (Nat.le_refl _) _).drew | exact ((Below.refl _ wr).alloc (Nat.le_refl _) _)); rintro e wI ⟨rfl, hbI⟩; have kI0 := up_whole hbI (show Whole _ wr.heap.size 87 #[.slice a1 n1 c1, .slice a2 n2 c2] from Whole.new wr _ _); have hWI : Below wr.heap.size wr wI := by (first | exact below_two ((Below.refl _ wr).alloc (Nat.le_refl _) (.cells #[.slice a1 n1 c1, .slice a2 n2 c2] 87)) hbI | exact below_two ((Below.refl _ wr).alloc (Nat.le_refl _) (.cells #[.slice a1 n1 c1, .slice a2 n2 c2] 87)).drew hbI))))
      have HF := Lib.hid (((Hbx.out.trans (hWI.mono hzx)).trans (hbL.mono (Nat.le_trans hzx hWI.size))).trans hbW)
      have HBW := Lib.hid hBW
      clear hBW hbW hkW hadd1 hadd2 hadd3 hadd4 hadd5 hadd6 hadd7
      go_wp2
      go_roundw
      case rel => exact ⟨x + 1, by omega, by go_num, HBW.out, HF.out⟩
      case measure => simp [intOf]; omega
    · have HN4 : Hid (textY s x = strSp s) := Lib.hid (by
        have h3 : x = s.states.length := by have := HA.out.len; omega
        rw [h3]; unfold textY strSp objS; rw [List.length_map])
      have hBx := HBx.out
      rw [HN4.out] at hBx
      have HSt := Lib.hid (bstr_any w.heap.size w.heap.size (strSp s) wr hBx hzx)
      clear hBx
      go_wp2_with fail
      refine HSt.out.mono ?_
      rintro e w7 ⟨rfl, hb7⟩
      go_wp2
      go_ret
      exact ⟨rfl, Hbx.out.trans hb7⟩
end Go.Proofs.YtohljainhkdiiaaGreatDoor
/- spec.String. -/
namespace Go.Proofs.YtohljainhkdiiaaGreatDoor
open Go.RowKit Pl

def spStrV (s : Spc) : Value := if spcB s = true then .tuple #[.string (mk (strSp s)), .int .i64 0] else .tuple #[.string ⟨#[]⟩, .int .i64 30]
theorem spStrV_no {s : Spc} (h : spcB s = false) : spStrV s = .tuple #[.string ⟨#[]⟩, .int .i64 30] := by unfold spStrV; rw [h]; rfl
theorem spStrV_yes {s : Spc} (h : spcB s = true) : spStrV s = .tuple #[.string (mk (strSp s)), .int .i64 0] := if_pos h
set_option maxRecDepth 100000 in
set_option maxHeartbeats 4000000 in
theorem SpString_any {w : World} {a : Option Addr} {n c : Nat} {b : Option Addr} {k d : Nat} {s : Spc} (E : Env w) (T : Tab w) (A : SpecArg w a n c b k d s) :
    Calls Tryz.prog 42 #[.agg #[.slice a n c, .slice b k d]] w fun e w' => e = .returned (spStrV s) ∧ Below w.heap.size w w' := by
  have hB := (Below.refl w.heap.size w).alloc (Nat.le_refl _) (.cells #[.slice a n c, .slice b k d] 40)
  have HA := Lib.hid A
  have HE := Lib.hid E
  have HTb := Lib.hid T
  have hw := Whole.new w 40 #[.slice a n c, .slice b k d]
  obtain ⟨e0, e1, e2, hE⟩ := E.errs
  have HC := Lib.hid (PCheck_any (hE.below hB) (A.below hB))
  have HBB := Lib.hid hB
  have HW := Lib.hid hw
  clear A hB E T hE hw
  have hmf : ∀ (fn : Fn) (first cap : Array Value) (w : World), (Instr.makeFunc fn first cap).run Tryz.prog w = .ok (.func fn first cap) w := fun _ _ _ _ => rfl
  cases hv : spcB s
  · have HV := Lib.hid (spStrV_no hv)
    rw [chkS_no hv] at HC
    clear hv
    go_enter Tryz.func42, Tryz.ntmps42
    go_wp2_with fail
    refine HC.out.mono ?_
    rintro e w1 ⟨rfl, hb1⟩
    go_wp2
    go_ret2
    exact ⟨by rw [HV.out]; rfl, HBB.out.trans (hb1.mono HBB.out.size)⟩
  · have HV := Lib.hid (spStrV_yes hv)
    rw [chkS_yes hv] at HC
    have HS := Lib.hid hv
    clear hv
    go_enter Tryz.func42, Tryz.ntmps42
    go_wp2_with fail
    refine HC.out.mono ?_
    rintro e w1 ⟨rfl, hb1⟩
    have hb0 := HBB.out.trans (hb1.mono HBB.out.size)
    have hw1 := HW.out.below hb1 HW.out.lt
    have q0 := hw1.cell 0
    have q1 := hw1.cell 1
    have HT := Lib.hid (SpText_any ⟨#[115, 112, 101, 99]⟩ rfl (HE.out.below hb0) (HTb.out.below hb0) (HA.out.below hb0) HS.out hw1)
    have HB0 := Lib.hid hb0
    simp only [List.getElem?_toArray, List.getElem?_cons_succ, List.getElem?_cons_zero] at q0 q1
    clear hb0 hb1 hw1
    go_wp2_with fail
    refine HT.out.mono ?_
    rintro e w2 ⟨rfl, hb2⟩
    go_wp2
    go_ret2
    exact ⟨by rw [HV.out]; rfl, HB0.out.trans (hb2.mono HB0.out.size)⟩
end Go.Proofs.YtohljainhkdiiaaGreatDoor
/- The reference's Same of specifications. -/
namespace Go.Proofs.YtohljainhkdiiaaGreatDoor
open Go.RowKit Pl

set_option maxHeartbeats 8000000 in
theorem RSSame_any {w : World} {a : Option Addr} {n c : Nat} {b : Option Addr} {k d : Nat} {m : Spc} {a' : Option Addr} {n' c' : Nat} {b' : Option Addr} {k' d' : Nat} {m' : Spc} (A : SpecArg w a n c b k d m) (A' : SpecArg w a' n' c' b' k' d' m') :
    Calls Tryz.prog 45 #[.agg #[.slice a n c, .slice b k d], .agg #[.slice a' n' c', .slice b' k' d']] w fun e w' => e = .returned (.bool (sameP m m')) ∧ Below w.heap.size w w' := by
  have hB := ((Below.refl w.heap.size w).alloc (Nat.le_refl _) (.cells #[.slice a n c, .slice b k d] 40)).alloc (by simp) (.cells #[.slice a' n' c', .slice b' k' d'] 40)
  have HS := Lib.hid (SameStrings_any _ _ c _ _ _ c' _ ((w.alloc (.cells #[.slice a n c, .slice b k d] 40)).alloc (.cells #[.slice a' n' c', .slice b' k' d'] 40)) A.acts.len A'.acts.len A.acts.big A'.acts.big (A.acts.cells.below hB) (A'.acts.cells.below hB))
  have HA := Lib.hid A
  have HA' := Lib.hid A'
  have h2 : k ≤ 140737488355328 := A.big
  have h2' : k' ≤ 140737488355328 := A'.big
  have HR := Lib.hid (A.rows.below hB)
  have HR' := Lib.hid (A'.rows.below hB)
  have HBB := Lib.hid hB
  clear A A' hB
  by_cases ha : m.acts = m'.acts
  · rw [decide_eq_true ha] at HS
    by_cases hk : k = k'
    · subst hk
      have HAC := Lib.hid ha
      clear ha
      go_enter Tryz.func45, Tryz.ntmps45
      go_wp2_with fail
      refine HS.out.mono ?_
      rintro e w' ⟨rfl, rfl⟩
      go_wp2
      go_loopw [5, 6, 25] (fun _ _ i wr => ∃ j : Nat, j ≤ k ∧ i = .int .i64 j ∧ Hid (∀ x, x < j → teAt m.states x = teAt m'.states x) ∧ Below (w.heap.size + 1 + 1) ((w.alloc (.cells #[.slice a n c, .slice b k d] 40)).alloc (.cells #[.slice a' n' c', .slice b' k d'] 40)) wr) (fun _ _ i _ => k - (intOf i).toNat)
      case atStart => exact ⟨0, Nat.zero_le _, rfl, Lib.hid fun x hx => by omega, Below.refl _ _⟩
      case round =>
        obtain ⟨j, hj, rfl, ht, hb⟩ := hrel
        have hb' : Below ((w.alloc (.cells #[.slice a n c, .slice b k d] 40)).alloc (.cells #[.slice a' n' c', .slice b' k d'] 40)).heap.size ((w.alloc (.cells #[.slice a n c, .slice b k d] 40)).alloc (.cells #[.slice a' n' c', .slice b' k d'] 40)) wr := hb.mono (by simp)
        by_cases hlt : j < k
        · obtain ⟨bb, off, rfl, a1, n1, c1, a2, n2, c2, d1, d2, hN1, hN2⟩ := (HR.out.below hb') j (by have := HA.out.len; omega)
          obtain ⟨bb', off', rfl, b1, m1, e1, b2, m2, e2, f1, f2, hM1, hM2⟩ := (HR'.out.below hb') j (by have := HA'.out.len; omega)
          have c3 : wr.cell? ⟨w.heap.size + 1, 1, none⟩ = some (.slice (some ⟨bb', off', none⟩) k d') := by rw [hb'.cell (by simp)]; simp
          have hjj : (j : Int) < (k : Int) := by omega
          have hj0 : (0 : Int) ≤ (j : Int) := by omega
          have HX : Hid (∀ W, Below wr.heap.size wr W → Calls Tryz.prog 13 #[.slice a1 n1 c1, .slice b1 m1 e1] W fun e w' => e = .returned (.bool (decide ((teAt m.states j).1 = (teAt m'.states j).1))) ∧ W = w') := Lib.hid fun W hW => SameInts_any _ _ c1 _ _ _ e1 _ W hN1.arg.len hM1.arg.len hN1.arg.big hM1.arg.big (hN1.arg.below hW).cells (hM1.arg.below hW).cells
          have HY : Hid (∀ W, Below wr.heap.size wr W → Calls Tryz.prog 13 #[.slice a2 n2 c2, .slice b2 m2 e2] W fun e w' => e = .returned (.bool (decide ((teAt m.states j).2 = (teAt m'.states j).2))) ∧ W = w') := Lib.hid fun W hW => SameInts_any _ _ c2 _ _ _ e2 _ W hN2.arg.len hM2.arg.len hN2.arg.big hM2.arg.big (hN2.arg.below hW).cells (hM2.arg.below hW).cells
          have HBe := Lib.hid (hb.alloc (Nat.le_trans (by simp) hb'.size) (.cells #[.slice a1 n1 c1, .slice a2 n2 c2] 87))
          have HBf := Lib.hid ((HBB.out.trans (hb'.mono HBB.out.size)).alloc (Nat.le_trans HBB.out.size hb'.size) (.cells #[.slice a1 n1 c1, .slice a2 n2 c2] 87))
          have hWA : Below wr.heap.size wr (wr.alloc (.cells #[.slice a1 n1 c1, .slice a2 n2 c2] 87)) := (Below.refl _ wr).alloc (Nat.le_refl _) _
          have k0 : ((wr.alloc (.cells #[.slice a1 n1 c1, .slice a2 n2 c2] 87))).cell? ⟨wr.heap.size, 0, none⟩ = some (.slice a1 n1 c1) := by simp
          have k1 : ((wr.alloc (.cells #[.slice a1 n1 c1, .slice a2 n2 c2] 87))).cell? ⟨wr.heap.size, 1, none⟩ = some (.slice a2 n2 c2) := by simp
          have K0 := fun (d : Nat) (os : Array Obj) => cell_regrown k0 d os
          have K1 := fun (d : Nat) (os : Array Obj) => cell_regrown k1 d os
          have K2 := fun (d : Nat) (os : Array Obj) => cell_regrown (cell_new c3 (.cells #[.slice a1 n1 c1, .slice a2 n2 c2] 87)) d os
          have K3 := fun (d : Nat) (os : Array Obj) => cell_regrown (cell_new f1 (.cells #[.slice a1 n1 c1, .slice a2 n2 c2] 87)) d os
          have K4 := fun (d : Nat) (os : Array Obj) => cell_regrown (cell_new f2 (.cells #[.slice a1 n1 c1, .slice a2 n2 c2] 87)) d os
          clear hN1 hN2 hM1 hM2 k0 k1
          by_cases h1 : (teAt m.states j).1 = (teAt m'.states j).1
          · rw [decide_eq_true h1] at HX
            by_cases h2e : (teAt m.states j).2 = (teAt m'.states j).2
            · have HG : Hid (∀ x, x < j + 1 → teAt m.states x = teAt m'.states x) := Lib.hid fun x hx => by
                by_cases e : x = j
                · rw [e]; exact Prod.ext h1 h2e
                · exact ht.out x (by omega)
              rw [decide_eq_true h2e] at HY
              clear h1 h2e hb hb'
              have cX := fun (d : Nat) (os : Array Obj) => Calls.regrown_of (w := (wr.alloc (.cells #[.slice a1 n1 c1, .slice a2 n2 c2] 87))) (d := d) (os := os) ((HX.out _ (hWA.trans ((below_regrown _ d os).mono hWA.size))).mono (fun e w' h => ⟨h.1, by rw [← h.2]; exact Below.refl _ _⟩))
              have cY := fun (d : Nat) (os : Array Obj) => Calls.regrown_of (w := (wr.alloc (.cells #[.slice a1 n1 c1, .slice a2 n2 c2] 87))) (d := d) (os := os) ((HY.out _ (hWA.trans ((below_regrown _ d os).mono hWA.size))).mono (fun e w' h => ⟨h.1, by rw [← h.2]; exact Below.refl _ _⟩))
              have hWs := hWA.size
              clear hWA
              go_wp2
              refine wp_region_quiet_below (by kernel_rfl) (by kernel_rfl) ?_
              repeat (go_big_quiet_step (first | (go_at_call 13; with_reducible exact cX _ _) | (go_at_call 13; with_reducible exact cY _ _)))
              refine wpQuiet_nil ?_
              intro _ hw'
              obtain ⟨⟨dq, osq⟩, hw''⟩ := hw'
              subst hw''
              have hq1 := below_regrown (wr.alloc (.cells #[.slice a1 n1 c1, .slice a2 n2 c2] 87)) dq osq
              go_wp2
              go_roundw
              case rel => exact ⟨j + 1, by omega, by go_num, HG, HBe.out.trans (hq1.mono (Nat.le_trans (by simp) HBe.out.size))⟩
              case measure => simp [intOf]; omega
            · have HB : Hid (sameP m m' = false) := Lib.hid (by
                rw [Bool.eq_false_iff, Ne, sameP_iff]
                intro e
                rw [e] at h2e
                exact h2e rfl)
              rw [decide_eq_false h2e] at HY
              clear h1 h2e hb hb'
              have cX := fun (d : Nat) (os : Array Obj) => Calls.regrown_of (w := (wr.alloc (.cells #[.slice a1 n1 c1, .slice a2 n2 c2] 87))) (d := d) (os := os) ((HX.out _ (hWA.trans ((below_regrown _ d os).mono hWA.size))).mono (fun e w' h => ⟨h.1, by rw [← h.2]; exact Below.refl _ _⟩))
              have cY := fun (d : Nat) (os : Array Obj) => Calls.regrown_of (w := (wr.alloc (.cells #[.slice a1 n1 c1, .slice a2 n2 c2] 87))) (d := d) (os := os) ((HY.out _ (hWA.trans ((below_regrown _ d os).mono hWA.size))).mono (fun e w' h => ⟨h.1, by rw [← h.2]; exact Below.refl _ _⟩))
              have hWs := hWA.size
              clear hWA
              go_wp2
              refine wp_region_quiet_below (by kernel_rfl) (by kernel_rfl) ?_
              repeat (go_big_quiet_step (first | (go_at_call 13; with_reducible exact cX _ _) | (go_at_call 13; with_reducible exact cY _ _)))
              refine wpQuiet_nil ?_
              intro _ hw'
              obtain ⟨⟨dq, osq⟩, hw''⟩ := hw'
              subst hw''
              have hq1 := below_regrown (wr.alloc (.cells #[.slice a1 n1 c1, .slice a2 n2 c2] 87)) dq osq
              go_wp2
              go_ret
              exact ⟨by rw [HB.out]; rfl, HBf.out.trans (hq1.mono HBf.out.size)⟩
          · have HB : Hid (sameP m m' = false) := Lib.hid (by
              rw [Bool.eq_false_iff, Ne, sameP_iff]
              intro e
              rw [e] at h1
              exact h1 rfl)
            rw [decide_eq_false h1] at HX
            clear h1 hb hb'
            have cX := fun (d : Nat) (os : Array Obj) => Calls.regrown_of (w := (wr.alloc (.cells #[.slice a1 n1 c1, .slice a2 n2 c2] 87))) (d := d) (os := os) ((HX.out _ (hWA.trans ((below_regrown _ d os).mono hWA.size))).mono (fun e w' h => ⟨h.1, by rw [← h.2]; exact Below.refl _ _⟩))
            have hWs := hWA.size
            clear hWA
            go_wp2
            refine wp_region_quiet_below (by kernel_rfl) (by kernel_rfl) ?_
            repeat (go_big_quiet_step (first | (go_at_call 13; exact cX _ _)))
            refine wpQuiet_nil ?_
            intro _ hw'
            obtain ⟨⟨dq, osq⟩, hw''⟩ := hw'
            subst hw''
            have hq1 := below_regrown (wr.alloc (.cells #[.slice a1 n1 c1, .slice a2 n2 c2] 87)) dq osq
            go_wp2
            go_ret
            exact ⟨by rw [HB.out]; rfl, HBf.out.trans (hq1.mono HBf.out.size)⟩
        · have HB : Hid (sameP m m' = true) := Lib.hid (by
            have e := stes_ext (l := m.states) (m := m'.states) (by have := HA.out.len; have := HA'.out.len; omega) (fun x hx => ht.out x (by have := HA.out.len; omega))
            unfold sameP
            rw [decide_eq_true HAC.out, decide_eq_true e]; rfl)
          go_wp2
          go_ret
          exact ⟨by rw [HB.out]; rfl, HBB.out.trans (hb'.mono HBB.out.size)⟩
    · have hq : ((k : Int) != k') = true := by rw [bne_iff_ne]; omega
      have HB : Hid (sameP m m' = false) := Lib.hid (by
        rw [Bool.eq_false_iff, Ne, sameP_iff]
        intro e
        rw [HA.out.len, HA'.out.len, e] at hk
        exact hk rfl)
      clear ha hk
      go_enter Tryz.func45, Tryz.ntmps45
      go_wp2_with fail
      refine HS.out.mono ?_
      rintro e w' ⟨rfl, rfl⟩
      go_wp2
      go_ret
      exact ⟨by rw [HB.out]; rfl, HBB.out⟩
  · have HB : Hid (sameP m m' = false) := Lib.hid (by
      rw [Bool.eq_false_iff, Ne, sameP_iff]
      intro e
      rw [e] at ha
      exact ha rfl)
    rw [decide_eq_false ha] at HS
    clear ha
    go_enter Tryz.func45, Tryz.ntmps45
    go_wp2_with fail
    refine HS.out.mono ?_
    rintro e w' ⟨rfl, rfl⟩
    go_wp2
    go_ret
    exact ⟨by rw [HB.out]; rfl, HBB.out⟩
end Go.Proofs.YtohljainhkdiiaaGreatDoor
/- The specification of the laws' fixed calls; whether the program is awake on it. -/
namespace Go.Proofs.YtohljainhkdiiaaGreatDoor
open Go.RowKit Pl

def vA (w : World) : World := w.alloc (.cells #[.slice (some ⟨w.heap.size + 1, 0, none⟩) 2 2, .slice (some ⟨w.heap.size + 6, 0, none⟩) 2 2] 40)
def vB (w : World) : World := (vA w).alloc (.cells #[.string coinB, .string teaB] 9)
def vC (w : World) : World := (vB w).alloc (.cells #[.int .i64 1] 3)
def vD (w : World) : World := (vC w).alloc (.cells #[.int .i64 1, .int .i64 (-1)] 3)
def vE (w : World) : World := (vD w).alloc (.cells #[.int .i64 0, .int .i64 2] 3)
def vF (w : World) : World := (vE w).alloc (.cells #[.int .i64 (-1), .int .i64 0] 3)
def vG (w : World) : World := (vF w).alloc (.cells #[.slice (some ⟨w.heap.size + 2, 0, none⟩) 1 1, .slice (some ⟨w.heap.size + 3, 0, none⟩) 2 2, .slice (some ⟨w.heap.size + 4, 0, none⟩) 2 2, .slice (some ⟨w.heap.size + 5, 0, none⟩) 2 2] 87)
theorem vSizes (w : World) : (vA w).heap.size = w.heap.size + 1 ∧ (vB w).heap.size = w.heap.size + 2 ∧ (vC w).heap.size = w.heap.size + 3 ∧ (vD w).heap.size = w.heap.size + 4 ∧ (vE w).heap.size = w.heap.size + 5 ∧ (vF w).heap.size = w.heap.size + 6 := by
  refine ⟨?_, ?_, ?_, ?_, ?_, ?_⟩ <;> simp [vA, vB, vC, vD, vE, vF]
theorem nums_row {W : World} {q : Nat} {cs : Array Value} {l : List Int} (h : Whole W q 3 cs) (hc : cs = (l.map (Value.int .i64)).toArray) (hl : l.length ≤ 17592186044416) (hr : ∀ x ∈ l, -1 ≤ x ∧ x ≤ 9223372036854775807) : NumsArg W (some ⟨q, 0, none⟩) l.length l.length l := by
  refine ⟨⟨(fun h => by cases h), rfl, Nat.le_refl _, by omega, fun j hj => ⟨q, 0, rfl, ?_⟩⟩, hl, fun j hj => ?_⟩
  · rw [Nat.zero_add, h.cell, hc, List.getElem?_toArray, List.getElem?_map, List.getElem?_eq_getElem hj, List.getD_eq_getElem?_getD, List.getElem?_eq_getElem hj]
    rfl
  · have := hr (l.getD j 0) (by rw [List.getD_eq_getElem?_getD, List.getElem?_eq_getElem hj]; exact List.getElem_mem hj)
    omega
theorem vendQ_arg (w : World) : SpecArg (vG w) (some ⟨w.heap.size + 1, 0, none⟩) 2 2 (some ⟨w.heap.size + 6, 0, none⟩) 2 2 vendQ ∧ Below w.heap.size w (vG w) := by
  obtain ⟨z1, z2, z3, z4, z5, z6⟩ := vSizes w
  have bA : Below w.heap.size w (vA w) := (Below.refl _ w).alloc (Nat.le_refl _) _
  have bB : Below w.heap.size w (vB w) := bA.alloc (by omega) _
  have bC : Below w.heap.size w (vC w) := bB.alloc (by omega) _
  have bD : Below w.heap.size w (vD w) := bC.alloc (by omega) _
  have bE : Below w.heap.size w (vE w) := bD.alloc (by omega) _
  have bF : Below w.heap.size w (vF w) := bE.alloc (by omega) _
  have bG : Below w.heap.size w (vG w) := bF.alloc (by omega) _
  have hs := strs_new (vA w) [coinB, teaB] (by decide) (fun x hx => by
    simp only [List.mem_cons, List.not_mem_nil, or_false] at hx
    rcases hx with rfl | rfl <;> decide)
  have sBG : Below (vB w).heap.size (vB w) (vG w) := (((((Below.refl _ (vB w)).alloc (Nat.le_refl _) _).alloc (by simp only [World.size_alloc]; omega) _).alloc (by simp only [World.size_alloc]; omega) _).alloc (by simp only [World.size_alloc]; omega) _).alloc (by simp only [World.size_alloc]; omega) _
  have hs2 : StrArg (vG w) (some ⟨(vA w).heap.size, 0, none⟩) 2 2 [coinB, teaB] := StrArg.below (w := vB w) hs sBG
  rw [z1] at hs2
  have hC := ((((Whole.new (vB w) 3 #[.int .i64 1]).alloc (.cells #[.int .i64 1, .int .i64 (-1)] 3)).alloc (.cells #[.int .i64 0, .int .i64 2] 3)).alloc (.cells #[.int .i64 (-1), .int .i64 0] 3)).alloc (.cells #[.slice (some ⟨w.heap.size + 2, 0, none⟩) 1 1, .slice (some ⟨w.heap.size + 3, 0, none⟩) 2 2, .slice (some ⟨w.heap.size + 4, 0, none⟩) 2 2, .slice (some ⟨w.heap.size + 5, 0, none⟩) 2 2] 87)
  have hD := (((Whole.new (vC w) 3 #[.int .i64 1, .int .i64 (-1)]).alloc (.cells #[.int .i64 0, .int .i64 2] 3)).alloc (.cells #[.int .i64 (-1), .int .i64 0] 3)).alloc (.cells #[.slice (some ⟨w.heap.size + 2, 0, none⟩) 1 1, .slice (some ⟨w.heap.size + 3, 0, none⟩) 2 2, .slice (some ⟨w.heap.size + 4, 0, none⟩) 2 2, .slice (some ⟨w.heap.size + 5, 0, none⟩) 2 2] 87)
  have hE := ((Whole.new (vD w) 3 #[.int .i64 0, .int .i64 2]).alloc (.cells #[.int .i64 (-1), .int .i64 0] 3)).alloc (.cells #[.slice (some ⟨w.heap.size + 2, 0, none⟩) 1 1, .slice (some ⟨w.heap.size + 3, 0, none⟩) 2 2, .slice (some ⟨w.heap.size + 4, 0, none⟩) 2 2, .slice (some ⟨w.heap.size + 5, 0, none⟩) 2 2] 87)
  have hF := (Whole.new (vE w) 3 #[.int .i64 (-1), .int .i64 0]).alloc (.cells #[.slice (some ⟨w.heap.size + 2, 0, none⟩) 1 1, .slice (some ⟨w.heap.size + 3, 0, none⟩) 2 2, .slice (some ⟨w.heap.size + 4, 0, none⟩) 2 2, .slice (some ⟨w.heap.size + 5, 0, none⟩) 2 2] 87)
  have hG := Whole.new (vF w) 87 #[.slice (some ⟨w.heap.size + 2, 0, none⟩) 1 1, .slice (some ⟨w.heap.size + 3, 0, none⟩) 2 2, .slice (some ⟨w.heap.size + 4, 0, none⟩) 2 2, .slice (some ⟨w.heap.size + 5, 0, none⟩) 2 2]
  rw [z2] at hC
  rw [z3] at hD
  rw [z4] at hE
  rw [z5] at hF
  rw [z6] at hG
  refine ⟨⟨hs2, by decide, (fun h => by cases h), rfl, by decide, by decide, fun i hi => ⟨w.heap.size + 6, 0, rfl, ?_⟩⟩, bG⟩
  have hi' : i = 0 ∨ i = 1 := by
    have : i < 2 := hi
    omega
  rcases hi' with rfl | rfl
  · exact ⟨_, _, _, _, _, _, hG.cell 0, hG.cell 1, nums_row (l := [1]) hC rfl (by decide) (by decide), nums_row (l := [1, -1]) hD rfl (by decide) (by decide)⟩
  · exact ⟨_, _, _, _, _, _, hG.cell 2, hG.cell 3, nums_row (l := [0, 2]) hE rfl (by decide) (by decide), nums_row (l := [-1, 0]) hF rfl (by decide) (by decide)⟩
set_option maxRecDepth 100000 in
theorem vendS_any (w : World) : Calls Tryz.prog 43 #[] w fun e w' => ∃ a c b d, e = .returned (.agg #[.slice a 2 c, .slice b 2 d]) ∧ SpecArg w' a 2 c b 2 d vendQ ∧ Below w.heap.size w w' := by
  have HV := Lib.hid (vendQ_arg w)
  go_enter Tryz.func43, Tryz.ntmps43
  go_wp2
  exact bodyPost_ret (v := .agg #[.slice (some ⟨w.heap.size + 1, 0, none⟩) 2 2, .slice (some ⟨w.heap.size + 6, 0, none⟩) 2 2]) (by simp [results, Tryz.results43, go_sem]) rfl ⟨_, _, _, _, rfl, HV.out.1, HV.out.2⟩
end Go.Proofs.YtohljainhkdiiaaGreatDoor
