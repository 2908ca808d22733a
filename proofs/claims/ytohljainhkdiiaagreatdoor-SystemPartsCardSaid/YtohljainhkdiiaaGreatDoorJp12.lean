/- Texts joined: TText, SStr, Vend, CopyA. -/
import Derived.Test.YtohljainhkdiiaaGreatDoorJp11
import Derived.Test.YtohljainhkdiiaaGreatDoorJp08
import Derived.Test.YtohljainhkdiiaaGreatDoorJp04
/- terms.Text, as system.String calls it. -/
namespace Go.Proofs.YtohljainhkdiiaaGreatDoor
open Go.RowKit Pl

/-- a call of strings.Join with blanks, at a row of the call's own that is not empty -/
theorem join_own {W : World} {base N : Nat} {v : Value} (x : ByteArray) (xs : List ByteArray) (h : W.ownsRow base 9 1 v N ((x :: xs).map Value.string)) (hN : N = xs.length + 1) (hN8 : N ≤ 1000000) (hl : (Lib.join ((x :: xs).map (·.data.toList)) [32]).length ≤ 140737488355328) :
    Calls Tryz.prog 93 #[v, .string ⟨#[32]⟩] W fun e w' => e = .returned (.string (mk (Lib.join ((x :: xs).map (·.data.toList)) [32]))) ∧ Below W.heap.size W w' := by
  rcases h.2 with ⟨rfl, h0⟩ | ⟨g, cap, cur, rfl, hg, hh, hn, hcap, hsz, ht⟩
  · omega
  · have hj := Tryz.strings_Join g 0 cap (x :: xs) ⟨#[32]⟩ W ?_ ?_ ?_ ?_ ?_
    · rw [List.length_cons, ← hN] at hj
      exact hj
    · intro j y hy
      have h9 := h.cells rfl j (.string y) (by rw [List.getElem?_map, hy]; rfl)
      rw [add_plainly, Nat.zero_add] at h9
      rw [Nat.zero_add]
      exact h9
    · exact (Array.getElem?_eq_some_iff.1 hh).1
    · rw [List.length_cons]; omega
    · rw [List.length_cons]; omega
    · exact hl
theorem join_head (kw : List UInt8) (acts : List ByteArray) : Lib.join ((mk kw :: acts).map (·.data.toList)) [32] = kw ++ acts.flatMap (fun a => [32] ++ a.data.toList) := by
  rw [List.map_cons, join_flat, List.flatMap_map]
  simp [mk]

/-- where Text stands behind x states -/
def textX (m : Syst) (x : Nat) : List UInt8 := strK m x
theorem textX_next (m : Syst) (x : Nat) : textX m (x + 1) = textX m x ++ ((Lib.decDigits x ++ [58] ++ (stAt m.states x).flatMap (edgeS m.acts)) ++ [10]) := strK_next m x
theorem textX_len {m : Syst} (h : sysB m = true) {x : Nat} (hx : x ≤ m.states.length) : (textX m x).length ≤ 20000000 := by
  have h0 := strK_len h x hx
  have h4 := total_take_le m.states x
  have := (sysB_iff m).1 h
  unfold textX
  omega

set_option maxRecDepth 100000 in
set_option maxHeartbeats 4000000 in
theorem TText_any {w : World} {a : Option Addr} {n c : Nat} {b : Option Addr} {k d : Nat} {m : Syst} {g : Nat} (kw : ByteArray) (hkw : kw = mk bSystem) (E : Env w) (A : SysArg w a n c b k d m) (hv : sysB m = true)
    (hg : Whole w g 25 #[.slice a n c, .slice b k d]) :
    Calls Tryz.prog 62 #[.string kw, .slice a n c, .slice b k d, .func (.func 63) #[] #[.pointer (some ⟨g, 0, none⟩)]] w fun e w' => e = .returned (.string (mk (strS m))) ∧ Below w.heap.size w w' := by
  obtain ⟨i0, hi, hz0, hz1, hz2⟩ := info_parts infoString
  have HA := Lib.hid A
  have HE := Lib.hid E
  have HS := Lib.hid hv
  have HG := Lib.hid hg
  have hs := (sysB_iff m).1 hv
  have hn8 : n ≤ 8 := by have := ((actsB_iff m.acts).1 hs.1).1; have := A.acts.len; omega
  have hk5 : k ≤ 5000 := by have := A.len; omega
  have HKW := Lib.hid hkw
  have hB1 := (Below.refl w.heap.size w).alloc (Nat.le_refl _) (.cells #[.pointer none, .slice none 0 0] 125)
  have hB2 := hB1.alloc (by simp) (.cells #[.string kw] 9)
  have hw0 := (Whole.new w 125 #[.pointer none, .slice none 0 0]).alloc (.cells #[.string kw] 9)
  have hlit := World.ownsRow_lit (base := w.heap.size) (e := 9) (size := 1) (w.alloc (.cells #[.pointer none, .slice none 0 0] 125)) #[.string kw] 1 (by simp) (by unfold maxLen; omega) rfl
  simp only [World.size_alloc] at hlit
  have HSrc := Lib.hid (strs_src (A.acts.below hB2))
  have HNil := Lib.hid A.acts.nils
  have HL : Hid ((m.acts.map Value.string).length = n * 1) := Lib.hid (by have := A.acts.len; simp; omega)
  have HB2 := Lib.hid hB2
  have HW0 := Lib.hid hw0
  have HLit := Lib.hid hlit
  clear hs A E hv hg hkw hB1 hB2 hw0 hlit
  go_enter Tryz.func62, Tryz.ntmps62
  go_wp2_with (at_builtin; (refine wpList_append_sz rfl (.tmp 13) (.tmp 14) 22 rfl w.heap.size 9 i0 (.string ⟨#[]⟩) 1 16 Tryz.underlying22 hi hz0 hz1 hz2 rfl (by decide) (.slice (some ⟨w.heap.size + 1, 0, none⟩) 1 1) rfl 1 [.string kw] HLit.out a n c rfl (m.acts.map Value.string) HNil.out HL.out HSrc.out (strs_one _) (by unfold maxLen; omega) (by omega) (by simp; omega) ?_); intro va w1 hva hg1 hat1; refine Hid.out ?_)
  refine Lib.hid ?_
  obtain ⟨aa, ca, rfl⟩ := own_slice hva
  have hb1 := HB2.out.grown hg1 (by simp; omega) (fun k hk => by simp [Value.ownBlock] at hk; omega)
  have x0 := HW0.out.grown hg1 (fun h => by simp [Value.ownBlock] at h)
  have HJ := Lib.hid (join_own (W := w1) kw m.acts (by have e : [Value.string kw] ++ m.acts.map Value.string = (kw :: m.acts).map Value.string := rfl; rw [← e]; exact hva) (by have := HA.out.acts.len; omega) (by omega) (by
    rw [HKW.out, join_head]
    have := headP_len ((sysB_iff m).1 HS.out).1 m.acts.length
    unfold headP at this
    rw [List.take_length] at this
    omega))
  have HBd := Lib.hid (bld_fresh x0)
  have HB1 := Lib.hid hb1
  have hzz1 := hb1.size
  have hx0l := x0.lt
  rw [HKW.out, join_head] at HJ
  clear hva hg1 hat1 hb1 x0
  obtain ⟨J, HJe⟩ : ∃ J, Hid (mk (bSystem ++ m.acts.flatMap (fun a => [32] ++ a.data.toList)) = J) := ⟨_, Lib.hid rfl⟩
  rw [HJe.out] at HJ
  have HJl : Hid (J.size ≤ 200) := Lib.hid (by
    rw [← HJe.out, mk_size']
    have := headP_len ((sysB_iff m).1 HS.out).1 m.acts.length
    unfold headP at this
    rwa [List.take_length] at this)
  have hJl := HJl.out
  have hnl : (⟨#[10]⟩ : ByteArray).size = 1 := rfl
  go_wp2_with fail
  refine HJ.out.mono ?_
  rintro e w2 ⟨rfl, hb2⟩
  have HWr := Lib.hid (write_any w.heap.size w.heap.size [] (J ++ (⟨#[10]⟩ : ByteArray)) w2 (HBd.out.up hb2) (by rw [ByteArray.size_append]; simp; omega) (Nat.le_trans hzz1 hb2.size))
  have HN0 : Hid ([] ++ (J ++ (⟨#[10]⟩ : ByteArray)).data.toList = textX m 0) := Lib.hid (by
    rw [← HJe.out]
    simp [ByteArray.data_append, mk, textX, strK, headS])
  rw [HN0.out] at HWr
  have HB2' := Lib.hid (HB1.out.trans (hb2.mono hzz1))
  clear hb2
  have hadd0 : ¬ 9223372036854775807 < J.size + 1 := by omega
  have hadd0' : ¬ 9223372036854775807 < J.size + (⟨#[10]⟩ : ByteArray).size := by omega
  go_wp2_with fail
  refine HWr.out.mono ?_
  rintro e w3 ⟨rfl, hB3, hb3, hk3⟩
  have HB3 := Lib.hid hB3
  have Hb3 := Lib.hid (HB2'.out.trans hb3)
  clear hB3 hb3 hk3 hadd0 hadd0'
  go_wp2
  go_loopw [10, 11, 21] (fun _ _ i wr => ∃ x : Nat, x ≤ k ∧ i = .int .i64 x ∧ Bld w.heap.size w.heap.size (textX m x) wr ∧ Below w.heap.size w wr) (fun _ _ i _ => k - (intOf i).toNat)
  case atStart => exact ⟨0, Nat.zero_le _, rfl, HB3.out, Hb3.out⟩
  case round =>
    obtain ⟨x, hx, rfl, hBx, hbx⟩ := hrel
    have HBx := Lib.hid hBx
    have Hbx := Lib.hid hbx
    have hzx := hbx.size
    clear hBx hbx
    by_cases hlt2 : x < k
    · obtain ⟨bx2, off2, rfl, ai, ni, ci, c0, hE⟩ := HA.out.rows x (by have := HA.out.len; omega)
      have c1 : wr.cell? ⟨bx2, off2 + x, none⟩ = some (.slice ai ni ci) := (Hbx.out.cell (lt_of_cell c0)).trans c0
      clear c0
      have HEd := Lib.hid hE
      clear hE
      have HI := Lib.hid (itoa_any x (by omega) wr (HE.out.below Hbx.out))
      obtain ⟨D, HD⟩ : ∃ D, Hid (mk (Lib.decDigits x) = D) := ⟨_, Lib.hid rfl⟩
      rw [HD.out] at HI
      have hD : D.size ≤ 21 := by rw [← HD.out, mk_size']; exact dec_length x (by omega)
      have hcol : (⟨#[58]⟩ : ByteArray).size = 1 := rfl
      obtain ⟨Ls, HLs⟩ : ∃ Ls, Hid (mk ((stAt m.states x).flatMap (edgeS m.acts)) = Ls) := ⟨_, Lib.hid rfl⟩
      have hLs : Ls.size ≤ 17200000 := by
        rw [← HLs.out, mk_size', ← lineS_all]
        exact lineS_len HS.out (by have := HA.out.len; omega) _
      have HN : Hid (textX m x ++ (D ++ (⟨#[58]⟩ : ByteArray) ++ Ls ++ (⟨#[10]⟩ : ByteArray)).data.toList = textX m (x + 1)) := Lib.hid (by
        rw [textX_next, ← HD.out, ← HLs.out]
        simp [ByteArray.data_append, mk])
      have hTl := textX_len HS.out (x := x) (by have := HA.out.len; omega)
      have hadd1 : ¬ 9223372036854775807 < D.size + 1 := by omega
      have hadd2 : ¬ 9223372036854775807 < D.size + (⟨#[58]⟩ : ByteArray).size := by omega
      have hadd3 : ¬ 9223372036854775807 < (D ++ (⟨#[58]⟩ : ByteArray)).size + Ls.size := by rw [ByteArray.size_append]; omega
      have hadd4 : ¬ 9223372036854775807 < (D ++ (⟨#[58]⟩ : ByteArray) ++ Ls).size + 1 := by rw [ByteArray.size_append, ByteArray.size_append]; omega
      have hadd5 : ¬ 9223372036854775807 < (D ++ (⟨#[58]⟩ : ByteArray) ++ Ls).size + (⟨#[10]⟩ : ByteArray).size := by rw [ByteArray.size_append, ByteArray.size_append]; omega
      have hadd6 : ¬ 9223372036854775807 < D.size + 1 + Ls.size := by omega
      have hadd7 : ¬ 9223372036854775807 < D.size + 1 + Ls.size + 1 := by omega
      go_wp2_with fail
      refine HI.out.mono ?_
      rintro e wI ⟨rfl, hbI⟩
      have hzI := hbI.size
      have HTI := Lib.hid (Hbx.out.trans (hbI.mono hzx))
      have HLi := line_any (x := x) (HE.out.below HTI.out) (HA.out.below HTI.out) HS.out (HG.out.below HTI.out HG.out.lt) (by have := HA.out.len; omega) (HEd.out.below HTI.out)
      rw [HLs.out] at HLi
      have HLi := Lib.hid HLi
      have HbI := Lib.hid hbI
      clear hbI
      go_wp2_with fail
      refine HLi.out.mono ?_
      rintro e wL ⟨rfl, hbL⟩
      have hzL := hbL.size
      have HWr2 := Lib.hid (write_any w.heap.size w.heap.size (textX m x) (D ++ (⟨#[58]⟩ : ByteArray) ++ Ls ++ (⟨#[10]⟩ : ByteArray)) wL ((HBx.out.up HbI.out).up hbL) (by simp only [ByteArray.size_append]; omega) (by omega))
      rw [HN.out] at HWr2
      have HTL := Lib.hid (HTI.out.trans (hbL.mono HTI.out.size))
      clear hbL
      go_wp2_with fail
      refine HWr2.out.mono ?_
      rintro e wW ⟨rfl, hBW, hbW, hkW⟩
      have HBW := Lib.hid hBW
      have HbW := Lib.hid (HTL.out.trans hbW)
      clear hBW hbW hkW hadd1 hadd2 hadd3 hadd4 hadd5 hadd6 hadd7
      go_wp2
      go_roundw
      case rel => exact ⟨x + 1, by omega, by go_num, HBW.out, HbW.out⟩
      case measure => simp [intOf]; omega
    · have HN4 : Hid (textX m x = strS m) := Lib.hid (by
        have h3 : x = m.states.length := by have := HA.out.len; omega
        rw [h3]; rfl)
      have hBx := HBx.out
      rw [HN4.out] at hBx
      have HSt := Lib.hid (bstr_any w.heap.size w.heap.size (strS m) wr hBx hzx)
      clear hBx
      go_wp2_with fail
      refine HSt.out.mono ?_
      rintro e w7 ⟨rfl, hb7⟩
      go_wp2
      go_ret
      exact ⟨rfl, Hbx.out.trans hb7⟩
end Go.Proofs.YtohljainhkdiiaaGreatDoor
/- system.String. -/
namespace Go.Proofs.YtohljainhkdiiaaGreatDoor
open Go.RowKit Pl

def sstrV (m : Syst) : Value := if sysB m = true then .tuple #[.string (mk (strS m)), .int .i64 0] else .tuple #[.string ⟨#[]⟩, .int .i64 20]
theorem sstrV_no {m : Syst} (h : sysB m = false) : sstrV m = .tuple #[.string ⟨#[]⟩, .int .i64 20] := by unfold sstrV; rw [h]; rfl
theorem sstrV_yes {m : Syst} (h : sysB m = true) : sstrV m = .tuple #[.string (mk (strS m)), .int .i64 0] := if_pos h
set_option maxRecDepth 100000 in
set_option maxHeartbeats 4000000 in
theorem SString_any {w : World} {a : Option Addr} {n c : Nat} {b : Option Addr} {k d : Nat} {m : Syst} (E : Env w) (A : SysArg w a n c b k d m) :
    Calls Tryz.prog 26 #[.agg #[.slice a n c, .slice b k d]] w fun e w' => e = .returned (sstrV m) ∧ Below w.heap.size w w' := by
  have hB := (Below.refl w.heap.size w).alloc (Nat.le_refl _) (.cells #[.slice a n c, .slice b k d] 25)
  have HA := Lib.hid A
  have HE := Lib.hid E
  have hw := Whole.new w 25 #[.slice a n c, .slice b k d]
  obtain ⟨e0, e1, e2, hE⟩ := E.errs
  have HC := Lib.hid (SCheck_any (hE.below hB) (A.below hB))
  have HBB := Lib.hid hB
  have HW := Lib.hid hw
  clear A hB E hE hw
  have hmf : ∀ (fn : Fn) (first cap : Array Value) (w : World), (Instr.makeFunc fn first cap).run Tryz.prog w = .ok (.func fn first cap) w := fun _ _ _ _ => rfl
  cases hv : sysB m
  · have HV := Lib.hid (sstrV_no hv)
    rw [chk_no hv] at HC
    clear hv
    go_enter Tryz.func26, Tryz.ntmps26
    go_wp2_with fail
    refine HC.out.mono ?_
    rintro e w1 ⟨rfl, hb1⟩
    go_wp2
    go_ret2
    exact ⟨by rw [HV.out]; rfl, HBB.out.trans (hb1.mono HBB.out.size)⟩
  · have HV := Lib.hid (sstrV_yes hv)
    rw [chk_yes hv] at HC
    have HS := Lib.hid hv
    clear hv
    go_enter Tryz.func26, Tryz.ntmps26
    go_wp2_with fail
    refine HC.out.mono ?_
    rintro e w1 ⟨rfl, hb1⟩
    have hb0 := HBB.out.trans (hb1.mono HBB.out.size)
    have hw1 := HW.out.below hb1 HW.out.lt
    have q0 := hw1.cell 0
    have q1 := hw1.cell 1
    have HT := Lib.hid (TText_any ⟨#[115, 121, 115, 116, 101, 109]⟩ rfl (HE.out.below hb0) (HA.out.below hb0) HS.out hw1)
    have HB0 := Lib.hid hb0
    simp only [List.getElem?_toArray, List.getElem?_cons_succ, List.getElem?_cons_zero] at q0 q1
    clear hb0 hb1 hw1
    go_wp2_with fail
    refine HT.out.mono ?_
    rintro e w2 ⟨rfl, hb2⟩
    go_wp2
    go_ret2
    exact ⟨by rw [HV.out]; rfl, HB0.out.trans (hb2.mono HB0.out.size)⟩
end Go.Proofs.YtohljainhkdiiaaGreatDoor
/- The vending machine of the laws; whether the program is awake on it. -/
namespace Go.Proofs.YtohljainhkdiiaaGreatDoor
open Go.RowKit Pl

def coin : ByteArray := mk [99, 111, 105, 110]
def tea : ByteArray := mk [116, 101, 97]
def vend : Syst := ⟨[coin, tea], [[(0, 1)], [(1, 0)]]⟩
def vendW (w : World) : World :=
  ((((w.alloc (.cells #[.slice (some ⟨w.heap.size + 1, 0, none⟩) 2 2, .slice (some ⟨w.heap.size + 1 + 1 + 1 + 1, 0, none⟩) 2 2] 25)).alloc
    (.cells #[.string coin, .string tea] 9)).alloc (.cells #[.int .i64 0, .int .i64 1] 71)).alloc (.cells #[.int .i64 1, .int .i64 0] 71)).alloc
    (.cells #[.slice (some ⟨w.heap.size + 1 + 1, 0, none⟩) 1 1, .slice (some ⟨w.heap.size + 1 + 1 + 1, 0, none⟩) 1 1] 60)
theorem vend_arg (w : World) : SysArg (vendW w) (some ⟨w.heap.size + 1, 0, none⟩) 2 2 (some ⟨w.heap.size + 1 + 1 + 1 + 1, 0, none⟩) 2 2 vend ∧ Below w.heap.size w (vendW w) := by
  have hb : ∀ (W : World) (o : Obj), Below W.heap.size W (W.alloc o) := fun W o => (Below.refl _ W).alloc (Nat.le_refl _) o
  constructor
  · have h1 := strs_new (w.alloc (.cells #[.slice (some ⟨w.heap.size + 1, 0, none⟩) 2 2, .slice (some ⟨w.heap.size + 1 + 1 + 1 + 1, 0, none⟩) 2 2] 25)) [coin, tea] (by decide) (fun x hx => by
      simp only [List.mem_cons, List.not_mem_nil, or_false] at hx
      rcases hx with rfl | rfl <;> decide)
    have h2 := ((h1.below (hb _ (.cells #[.int .i64 0, .int .i64 1] 71))).below (hb _ (.cells #[.int .i64 1, .int .i64 0] 71))).below (hb _ (.cells #[.slice (some ⟨w.heap.size + 1 + 1, 0, none⟩) 1 1, .slice (some ⟨w.heap.size + 1 + 1 + 1, 0, none⟩) 1 1] 60))
    simp only [World.size_alloc] at h2
    have hc := (Whole.new ((((w.alloc (.cells #[.slice (some ⟨w.heap.size + 1, 0, none⟩) 2 2, .slice (some ⟨w.heap.size + 1 + 1 + 1 + 1, 0, none⟩) 2 2] 25)).alloc
      (.cells #[.string coin, .string tea] 9)).alloc (.cells #[.int .i64 0, .int .i64 1] 71)).alloc (.cells #[.int .i64 1, .int .i64 0] 71)) 60 #[.slice (some ⟨w.heap.size + 1 + 1, 0, none⟩) 1 1, .slice (some ⟨w.heap.size + 1 + 1 + 1, 0, none⟩) 1 1])
    have hd := (Whole.new (((w.alloc (.cells #[.slice (some ⟨w.heap.size + 1, 0, none⟩) 2 2, .slice (some ⟨w.heap.size + 1 + 1 + 1 + 1, 0, none⟩) 2 2] 25)).alloc
      (.cells #[.string coin, .string tea] 9)).alloc (.cells #[.int .i64 0, .int .i64 1] 71)) 71 #[.int .i64 1, .int .i64 0]).alloc (.cells #[.slice (some ⟨w.heap.size + 1 + 1, 0, none⟩) 1 1, .slice (some ⟨w.heap.size + 1 + 1 + 1, 0, none⟩) 1 1] 60)
    have he := ((Whole.new ((w.alloc (.cells #[.slice (some ⟨w.heap.size + 1, 0, none⟩) 2 2, .slice (some ⟨w.heap.size + 1 + 1 + 1 + 1, 0, none⟩) 2 2] 25)).alloc
      (.cells #[.string coin, .string tea] 9)) 71 #[.int .i64 0, .int .i64 1]).alloc (.cells #[.int .i64 1, .int .i64 0] 71)).alloc (.cells #[.slice (some ⟨w.heap.size + 1 + 1, 0, none⟩) 1 1, .slice (some ⟨w.heap.size + 1 + 1 + 1, 0, none⟩) 1 1] 60)
    simp only [World.size_alloc] at hc hd he
    refine ⟨h2, by decide, (fun h => by cases h), rfl, by decide, by decide, fun i hi => ⟨w.heap.size + 1 + 1 + 1 + 1, 0, rfl, ?_⟩⟩
    have hi' : i = 0 ∨ i = 1 := by simp [vend] at hi; omega
    rcases hi' with rfl | rfl
    · refine ⟨some ⟨w.heap.size + 1 + 1, 0, none⟩, 1, 1, hc.cell 0, (fun h => by cases h), rfl, by decide, by decide, fun k hk => ⟨w.heap.size + 1 + 1, 0, rfl, ?_⟩⟩
      obtain rfl : k = 0 := by simp [vend, stAt] at hk; omega
      exact ⟨he.cell 0, he.cell 1⟩
    · refine ⟨some ⟨w.heap.size + 1 + 1 + 1, 0, none⟩, 1, 1, hc.cell 1, (fun h => by cases h), rfl, by decide, by decide, fun k hk => ⟨w.heap.size + 1 + 1 + 1, 0, rfl, ?_⟩⟩
      obtain rfl : k = 0 := by simp [vend, stAt] at hk; omega
      exact ⟨hd.cell 0, hd.cell 1⟩
  · have h0 := hb w (.cells #[.slice (some ⟨w.heap.size + 1, 0, none⟩) 2 2, .slice (some ⟨w.heap.size + 1 + 1 + 1 + 1, 0, none⟩) 2 2] 25)
    unfold vendW
    exact (((h0.alloc (by simp) _).alloc (by simp; omega) _).alloc (by simp; omega) _).alloc (by simp; omega) _
set_option maxRecDepth 100000 in
theorem vending_any (w : World) : Calls Tryz.prog 27 #[] w fun e w' => ∃ a c b d, e = .returned (.agg #[.slice a 2 c, .slice b 2 d]) ∧ SysArg w' a 2 c b 2 d vend ∧ Below w.heap.size w w' := by
  have HV := Lib.hid (vend_arg w)
  go_enter Tryz.func27, Tryz.ntmps27
  go_wp2
  exact bodyPost_ret (v := .agg #[.slice (some ⟨w.heap.size + 1, 0, none⟩) 2 2, .slice (some ⟨w.heap.size + 1 + 1 + 1 + 1, 0, none⟩) 2 2]) (by simp [results, Tryz.results27, go_sem]) rfl ⟨_, _, _, _, rfl, HV.out.1, HV.out.2⟩
theorem vend_ok : sysB vend = true := by decide
theorem dec0 : Lib.decDigits 0 = [48] := by unfold Lib.decDigits; rfl
theorem dec1 : Lib.decDigits 1 = [49] := by unfold Lib.decDigits; rfl
theorem vend_str : strS vend = [115, 121, 115, 116, 101, 109, 32, 99, 111, 105, 110, 32, 116, 101, 97, 10, 48, 58, 32, 99, 111, 105, 110, 32, 49, 10, 49, 58, 32, 116, 101, 97, 32, 48, 10] := by
  have e : List.range vend.states.length = [0, 1] := by decide
  have h0 : rowS vend.acts 0 (stAt vend.states 0) = [48, 58, 32, 99, 111, 105, 110, 32, 49] := by
    simp [rowS, edgeS, stAt, vend, nmS, dec0, dec1, at_, coin, tea, mk]
  have h1 : rowS vend.acts 1 (stAt vend.states 1) = [49, 58, 32, 116, 101, 97, 32, 48] := by
    simp [rowS, edgeS, stAt, vend, nmS, dec0, dec1, at_, coin, tea, mk]
  unfold strS strK
  rw [e]
  simp [h0, h1]
  decide
def vendTx : ByteArray := ⟨#[115, 121, 115, 116, 101, 109, 32, 99, 111, 105, 110, 32, 116, 101, 97, 10, 48, 58, 32, 99, 111, 105, 110, 32, 49, 10, 49, 58, 32, 116, 101, 97, 32, 48]⟩
theorem vend_parse : parseS vendTx.data.toList = (vend, 0) := by
  have h := parse_cut vend_ok (by rw [vend_str]; decide)
  rw [vend_str] at h
  exact h
theorem vend_offer : offerV vend 1 = 2 ∧ stC vend 1 = 0 := by decide
theorem vend_same : sameB vend vend = true := by decide
theorem chk_none : chk noSys = 20 := by decide

set_option maxRecDepth 100000 in
set_option maxHeartbeats 8000000 in
theorem awake_any {w : World} (E : Env w) : Calls Tryz.prog 7 #[] w fun e w' => e = .returned (.bool true) ∧ Below w.heap.size w w' := by
  go_enter Tryz.func7, Tryz.ntmps7
  have HE := Lib.hid E
  clear E
  go_wp2_with fail
  refine (vending_any _).mono ?_
  rintro e w1 ⟨a1, c1, b1, d1, rfl, hA1, hb1⟩
  have HS1 := Lib.hid (SString_any (HE.out.below hb1) hA1)
  have HB1 := Lib.hid hb1
  clear hA1 hb1
  go_wp2_with fail
  refine HS1.out.mono ?_
  rintro e w2 ⟨rfl, hb2⟩
  have HB2 := Lib.hid (HB1.out.trans (hb2.mono HB1.out.size))
  have HE2 := Lib.hid ((HE.out.below HB1.out).below hb2)
  clear hb2 HS1
  rw [sstrV_yes vend_ok, vend_str]
  have HP := Lib.hid (SParse_any vendTx (by decide) w2 HE2.out)
  rw [vend_parse] at HP
  go_wp2_with fail
  refine HP.out.mono ?_
  rintro e w3 ⟨a3, n3, c3, b3, k3, d3, rfl, hA3, hb3⟩
  have hA3' := (hA3.below ((Below.refl _ w3).alloc (Nat.le_refl _) (.cells #[.slice a3 n3 c3, .slice b3 k3 d3] 25)))
  have hw3 := Whole.new w3 25 #[.slice a3 n3 c3, .slice b3 k3 d3]
  have HB3 := Lib.hid ((HB2.out.trans (hb3.mono HB2.out.size)).alloc (by have := HB2.out.size; have := hb3.size; omega) (.cells #[.slice a3 n3 c3, .slice b3 k3 d3] 25))
  have HE3 := Lib.hid (HE.out.below HB3.out)
  obtain ⟨w4, hw4⟩ : ∃ w4, w3.alloc (.cells #[.slice a3 n3 c3, .slice b3 k3 d3] 25) = w4 := ⟨_, rfl⟩
  rw [hw4] at HB3 HE3 hA3' hw3
  have HA3 := Lib.hid hA3'
  have HW3 := Lib.hid hw3
  have HW4 := Lib.hid hw4
  clear hA3 hb3 HP hA3' hw3 hw4
  go_wp2_with fail
  rw [HW4.out]
  refine (vending_any _).mono ?_
  rintro e w5 ⟨a5, c5, b5, d5, rfl, hA5, hb5⟩
  obtain ⟨e0, e1, e2, hErr⟩ := (HE3.out.below hb5).errs
  have HO := Lib.hid (Offer_any 1 (by decide) (by decide) hErr hA5)
  rw [vend_offer.1, vend_offer.2] at HO
  have HB5 := Lib.hid (HB3.out.trans (hb5.mono HB3.out.size))
  have HA5 := Lib.hid (HA3.out.below hb5)
  have hW5 := HW3.out.below hb5 HW3.out.lt
  have HErr := Lib.hid hErr
  clear hA5 hb5 hErr
  go_wp2_with fail
  refine HO.out.mono ?_
  rintro e w6 ⟨rfl, hb6⟩
  have HB6 := Lib.hid (HB5.out.trans (hb6.mono HB5.out.size))
  have HA6 := Lib.hid (HA5.out.below hb6)
  have HErr6 := Lib.hid (HErr.out.below hb6)
  have hW6 := hW5.below hb6 hW5.lt
  have HL := Lib.hid HB6.out.size
  have k0 := hW6.cell 0
  have k1 := hW6.cell 1
  simp only [List.getElem?_toArray, List.getElem?_cons_succ, List.getElem?_cons_zero] at k0 k1
  have hmk : mk [115, 121, 115, 116, 101, 109, 32, 99, 111, 105, 110, 32, 116, 101, 97, 10, 48, 58, 32, 99, 111, 105, 110, 32, 49, 10, 49, 58, 32, 116, 101, 97, 32, 48, 10] = ⟨#[115, 121, 115, 116, 101, 109, 32, 99, 111, 105, 110, 32, 116, 101, 97, 10, 48, 58, 32, 99, 111, 105, 110, 32, 49, 10, 49, 58, 32, 116, 101, 97, 32, 48, 10]⟩ := rfl
  simp only [hmk]
  clear hmk hb6 hW5 hW6 HO
  go_wp2
  go_region_held3 (fun w' => w'.cell? ⟨w3.heap.size, 0, none⟩ = some (.slice a3 n3 c3) ∧ w'.cell? ⟨w3.heap.size, 1, none⟩ = some (.slice b3 k3 d3))
    ((first | assumption | go_keep))
    (first
      | (go_at_call 27; refine (vending_any _).mono ?_; rintro e w7 ⟨a7, c7, b7, d7, rfl, hA7, hb7⟩; have kI := up_cell hb7 k0; have kJ := up_cell hb7 k1)
      | (go_at_call 12; refine (RSame_any ((HA6.out.below (Below.refl _ _).drew).below hb7) hA7).mono ?_; rw [vend_same]; rintro e w8 ⟨rfl, hb8⟩; have kK := up_cell hb8 kI; have kL := up_cell hb8 kJ)
      | (go_at_call 30; refine (SCheck_any (((HErr6.out.below (Below.refl _ _).drew).below hb7).below hb8) (sys_nil _)).mono ?_; rw [chk_none]; rintro e w9 ⟨rfl, hb9⟩; have kM := up_cell hb9 kK; have kN := up_cell hb9 kL))
  have s7 : w.heap.size ≤ w7.heap.size := Nat.le_trans HL.out hb7.size
  have s8 : w.heap.size ≤ w8.heap.size := Nat.le_trans s7 hb8.size
  have HF := Lib.hid (((HB6.out.drew.trans (hb7.mono HL.out)).trans (hb8.mono s7)).trans (hb9.mono s8))
  clear hb7 hb8 hb9 kI kJ kK kL kM kN
  go_wp2
  go_ret
  exact ⟨rfl, HF.out⟩
end Go.Proofs.YtohljainhkdiiaaGreatDoor
/- The reference's Copy, as an argument of another call. -/
namespace Go.Proofs.YtohljainhkdiiaaGreatDoor
open Go.RowKit Pl

/-- a copy, as an argument of another call -/
theorem CopyA_any {w : World} {a : Option Addr} {n c : Nat} {b : Option Addr} {k d : Nat} {m : Syst} (A : SysArg w a n c b k d m) (hq : m.acts.length + m.states.length + total m.states ≤ 1000000) :
    Calls Tryz.prog 11 #[.agg #[.slice a n c, .slice b k d]] w fun e w' => ∃ a2 c2 b2 d2, e = .returned (.agg #[.slice a2 m.acts.length c2, .slice b2 m.states.length d2]) ∧ SysArg w' a2 m.acts.length c2 b2 m.states.length d2 m ∧ Below w.heap.size w w' := by
  refine (Copy_any A hq).mono ?_
  rintro e w2 ⟨va, vs, rfl, hO, hb2⟩
  obtain ⟨a2, c2, b2, d2, rfl, rfl, hA2⟩ := hO.arg (by omega) (by omega) (fun i hi => by have := total_take_le m.states (i + 1); have := total_take m.states i hi; omega) (fun k hk => A.acts.sz k (by have := A.acts.len; omega))
  exact ⟨a2, c2, b2, d2, rfl, hA2, hb2⟩
end Go.Proofs.YtohljainhkdiiaaGreatDoor
