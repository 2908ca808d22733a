/- ActStrings: String and List return the string and the actions of a set, Parse the set whose string it is, or the errors. -/
import Derived.Test.YtcbmlchlllpnoaaDoorRef
namespace Go.Proofs.YtcbmlchlllpnoaaDoor
open Go.RowKit Pl

theorem bytes_same (x : ByteArray) : (x.toList == x.toList) = true := by simp

set_option maxRecDepth 100000 in
set_option maxHeartbeats 8000000 in
theorem ActStrings_no {w : World} (x : Int) (s : ByteArray) {e0 e1 e2 : Addr} (E : Errs w e0 e1 e2) (T : Tab w) {a : Option Addr} {n c : Nat} {ss : List ByteArray} (A : StrArg w a n c ss) (hr : n * 16 ≤ 140737488351232) (hs : s.size ≤ 9223372036854775807) (hb : actsB ss = false) :
    Calls Tryd.prog 4 #[.slice a n c, .int .i64 x, .string s] w fun e w' => e = .returned (.bool true) ∧ Below w.heap.size w w' := by
  have HIs := Lib.hid (Is_arg A)
  have HE := Lib.hid E
  have HT := Lib.hid T
  have HA := Lib.hid A
  have HSC : Hid (setCode ss [x] = 10) := Lib.hid (by unfold setCode; rw [hb]; rfl)
  have HSV : Hid (stringV ss x = .tuple #[.string ⟨#[]⟩, .int .i64 10]) := Lib.hid (by unfold stringV; rw [HSC.out]; rfl)
  have HLL : Hid (listL ss x = []) := Lib.hid (by unfold listL; rw [HSC.out]; rfl)
  have HPV : Hid (ParseV ss s = .tuple #[.int .i64 0, .int .i64 10]) := Lib.hid (by unfold ParseV; rw [hb]; rfl)
  have hB := Below.refl w.heap.size w
  have heq := bytes_same ⟨#[]⟩
  rw [hb] at HIs
  clear hb E T A
  go_enter Tryd.func4, Tryd.ntmps4
  go_wp2_with fail
  refine HIs.out.mono ?_
  rintro e w' ⟨rfl, rfl⟩
  go_wp2_with fail
  refine (copied_any (HA.out.below hB) hr).mono ?_
  rintro e w1 ⟨a1, c1, rfl, hA1, hb1⟩
  have HA1 := Lib.hid hA1
  clear hA1
  have B1 := hB.trans (hb1.mono hB.size)
  go_wp2_with fail
  refine (String_any x (HE.out.below B1) (HT.out.below B1) HA1.out).mono ?_
  rintro e w2 ⟨rfl, hb2⟩
  rw [HSV.out]
  have B2 := B1.trans (hb2.mono B1.size)
  go_wp2_with fail
  refine (copied_any (HA.out.below B2) hr).mono ?_
  rintro e w3 ⟨a3, c3, rfl, hA3, hb3⟩
  have HA3 := Lib.hid hA3
  clear hA3
  have B3 := B2.trans (hb3.mono B2.size)
  go_wp2_with fail
  refine (List_any x (HE.out.below B3) (HT.out.below B3) HA3.out).mono ?_
  rintro e w4 ⟨v4, rfl, hrow, hb4⟩
  have B4 := B3.trans (hb4.mono B3.size)
  rw [HLL.out] at hrow
  rw [HSC.out]
  obtain ⟨a4, c4, rfl, hI4⟩ := ints_of_row (xs := ([] : List Nat).map (fun k : Nat => (k : Int))) (by rw [List.map_map]; exact hrow) (by rw [List.length_map]) (by simp)
  have HI4 := Lib.hid hI4
  clear hI4 hrow
  go_wp2_with fail
  refine (copied_any (HA.out.below B4) hr).mono ?_
  rintro e w5 ⟨a5, c5, rfl, hA5, hb5⟩
  have HA5 := Lib.hid hA5
  clear hA5
  have B5 := B4.trans (hb5.mono B4.size)
  go_wp2_with fail
  refine (Parse_any s hs (HE.out.below B5) HA5.out).mono ?_
  rintro e w6 ⟨rfl, hb6⟩
  have B6 := B5.trans (hb6.mono B5.size)
  rw [HPV.out]
  have b46 := hb5.trans (hb6.mono hb5.size)
  go_wp2_with fail
  refine (SameInts_any _ _ _ (([] : List Nat).map fun k : Nat => (k : Int)) _ _ _ (([] : List Nat).map fun k : Nat => (k : Int)) _ HI4.out.len rfl HI4.out.big (by simp) (HI4.out.cells.below b46) (IntsIn.nil _ _)).mono ?_
  rintro e w7 ⟨rfl, rfl⟩
  rw [decide_eq_true rfl]
  go_wp2_with fail
  refine (awake_any (HE.out.below B6) (HT.out.below B6)).mono ?_
  rintro e w8 ⟨rfl, hb8⟩
  go_wp2
  go_ret
  exact ⟨rfl, B6.trans (hb8.mono B6.size)⟩


set_option maxRecDepth 100000 in
set_option maxHeartbeats 8000000 in
theorem ActStrings_out_none {w : World} (x : Int) (s : ByteArray) {e0 e1 e2 : Addr} (E : Errs w e0 e1 e2) (T : Tab w) {a : Option Addr} {n c : Nat} {ss : List ByteArray} (A : StrArg w a n c ss) (hr : n * 16 ≤ 140737488351232) (hs : s.size ≤ 9223372036854775807) (hb : actsB ss = true) (hx : setB n x = false) (ho : parseO ss s.data.toList = none) :
    Calls Tryd.prog 4 #[.slice a n c, .int .i64 x, .string s] w fun e w' => e = .returned (.bool true) ∧ Below w.heap.size w w' := by
  have HIs := Lib.hid (Is_arg A)
  have HE := Lib.hid E
  have HT := Lib.hid T
  have HA := Lib.hid A
  have HB := Lib.hid hb
  have h8 : n ≤ 8 := by have := ((actsB_iff ss).1 hb).1; have := A.len; omega
  have HSt := Lib.hid (fun W => Set_any n x W (by omega))
  have HSC : Hid (setCode ss [x] = 1) := Lib.hid (by unfold setCode; rw [HB.out, List.all_cons, ← A.len, hx]; rfl)
  have HSV : Hid (stringV ss x = .tuple #[.string ⟨#[]⟩, .int .i64 1]) := Lib.hid (by unfold stringV; rw [HSC.out]; rfl)
  have HLL : Hid (listL ss x = []) := Lib.hid (by unfold listL; rw [HSC.out]; rfl)
  have HPV : Hid (ParseV ss s = .tuple #[.int .i64 0, .int .i64 11]) := Lib.hid (by unfold ParseV; rw [HB.out, ho]; rfl)
  have HRP : Hid (refParse ss s = .tuple #[.int .i64 0, .bool false]) := Lib.hid (by unfold refParse; rw [ho])
  have hB := Below.refl w.heap.size w
  have heq := bytes_same ⟨#[]⟩
  rw [hb] at HIs
  rw [hx] at HSt
  clear hb hx ho E T A
  go_enter Tryd.func4, Tryd.ntmps4
  go_wp2_with fail
  refine HIs.out.mono ?_
  rintro e w' ⟨rfl, rfl⟩
  go_wp2_with fail
  refine (HSt.out _).mono ?_
  rintro e w' ⟨rfl, rfl⟩
  go_wp2_with fail
  refine (RParse_any s HB.out HA.out).mono ?_
  rintro e w' ⟨rfl, rfl⟩
  rw [HRP.out]
  go_wp2_with fail
  refine (copied_any (HA.out.below hB) hr).mono ?_
  rintro e w1 ⟨a1, c1, rfl, hA1, hb1⟩
  have HA1 := Lib.hid hA1
  clear hA1
  have B1 := hB.trans (hb1.mono hB.size)
  go_wp2_with fail
  refine (String_any x (HE.out.below B1) (HT.out.below B1) HA1.out).mono ?_
  rintro e w2 ⟨rfl, hb2⟩
  rw [HSV.out]
  have B2 := B1.trans (hb2.mono B1.size)
  go_wp2_with fail
  refine (copied_any (HA.out.below B2) hr).mono ?_
  rintro e w3 ⟨a3, c3, rfl, hA3, hb3⟩
  have HA3 := Lib.hid hA3
  clear hA3
  have B3 := B2.trans (hb3.mono B2.size)
  go_wp2_with fail
  refine (List_any x (HE.out.below B3) (HT.out.below B3) HA3.out).mono ?_
  rintro e w4 ⟨v4, rfl, hrow, hb4⟩
  have B4 := B3.trans (hb4.mono B3.size)
  rw [HLL.out] at hrow
  rw [HSC.out]
  obtain ⟨a4, c4, rfl, hI4⟩ := ints_of_row (xs := ([] : List Nat).map (fun k : Nat => (k : Int))) (by rw [List.map_map]; exact hrow) (by rw [List.length_map]) (by simp)
  have HI4 := Lib.hid hI4
  clear hI4 hrow
  go_wp2_with fail
  refine (copied_any (HA.out.below B4) hr).mono ?_
  rintro e w5 ⟨a5, c5, rfl, hA5, hb5⟩
  have HA5 := Lib.hid hA5
  clear hA5
  have B5 := B4.trans (hb5.mono B4.size)
  go_wp2_with fail
  refine (Parse_any s hs (HE.out.below B5) HA5.out).mono ?_
  rintro e w6 ⟨rfl, hb6⟩
  have B6 := B5.trans (hb6.mono B5.size)
  rw [HPV.out]
  have b46 := hb5.trans (hb6.mono hb5.size)
  go_wp2_with fail
  refine (SameInts_any _ _ _ (([] : List Nat).map fun k : Nat => (k : Int)) _ _ _ (([] : List Nat).map fun k : Nat => (k : Int)) _ HI4.out.len rfl HI4.out.big (by simp) (HI4.out.cells.below b46) (IntsIn.nil _ _)).mono ?_
  rintro e w7 ⟨rfl, rfl⟩
  rw [decide_eq_true rfl]
  go_wp2_with fail
  refine (awake_any (HE.out.below B6) (HT.out.below B6)).mono ?_
  rintro e w8 ⟨rfl, hb8⟩
  go_wp2
  go_ret
  exact ⟨rfl, B6.trans (hb8.mono B6.size)⟩

set_option maxRecDepth 100000 in
set_option maxHeartbeats 8000000 in
theorem ActStrings_in_none {w : World} (y : Nat) (s : ByteArray) {e0 e1 e2 : Addr} (E : Errs w e0 e1 e2) (T : Tab w) {a : Option Addr} {n c : Nat} {ss : List ByteArray} (A : StrArg w a n c ss) (hr : n * 16 ≤ 140737488351232) (hs : s.size ≤ 9223372036854775807) (hb : actsB ss = true) (hx : setB n (y : Int) = true) (ho : parseO ss s.data.toList = none) :
    Calls Tryd.prog 4 #[.slice a n c, .int .i64 y, .string s] w fun e w' => e = .returned (.bool true) ∧ Below w.heap.size w w' := by
  have HIs := Lib.hid (Is_arg A)
  have HE := Lib.hid E
  have HT := Lib.hid T
  have HA := Lib.hid A
  have HB := Lib.hid hb
  have h8 : n ≤ 8 := by have := ((actsB_iff ss).1 hb).1; have := A.len; omega
  have HSt := Lib.hid (fun W => Set_any n y W (by omega))
  have hyN : (y : Int) < 2 ^ n := ((setB_iff n y).1 hx).2
  have h3 : ((2 ^ n : Nat) : Int) = (2 : Int) ^ n := by norm_cast
  have h2 : 2 ^ n ≤ 2 ^ 8 := Nat.pow_le_pow_right (by decide) h8
  have hy : y < 256 := by omega
  have HyN : Hid (y < 2 ^ n) := Lib.hid (by omega)
  have HSC : Hid (setCode ss [(y : Int)] = 0) := Lib.hid (by unfold setCode; rw [HB.out, List.all_cons, ← A.len, hx]; rfl)
  obtain ⟨S, HSe⟩ : ∃ S : ByteArray, Hid (S = ⟨(setS ss y).toArray⟩) := ⟨_, Lib.hid rfl⟩
  have HSV : Hid (stringV ss y = .tuple #[.string S, .int .i64 0]) := Lib.hid (by unfold stringV; rw [HSC.out, HSe.out]; rfl)
  have HLL : Hid (listL ss (y : Int) = memL y) := Lib.hid (by unfold listL; rw [HSC.out]; rfl)
  have HPV : Hid (ParseV ss s = .tuple #[.int .i64 0, .int .i64 11]) := Lib.hid (by unfold ParseV; rw [HB.out, ho]; rfl)
  have HRP : Hid (refParse ss s = .tuple #[.int .i64 0, .bool false]) := Lib.hid (by unfold refParse; rw [ho])
  have heq := bytes_same S
  rw [hb] at HIs
  rw [hx] at HSt
  clear hb hx ho E T A hyN h3 h2
  go_enter Tryd.func4, Tryd.ntmps4
  go_wp2_with fail
  refine HIs.out.mono ?_
  rintro e w' ⟨rfl, rfl⟩
  go_wp2_with fail
  refine (HSt.out _).mono ?_
  rintro e w' ⟨rfl, rfl⟩
  go_wp2_with fail
  refine (RString_any y hy HB.out HA.out).mono ?_
  rintro e w' ⟨⟨S', rfl, hS⟩, rfl⟩
  obtain rfl : S' = S := by
    rw [HSe.out]
    refine ByteArray.ext (Array.toList_inj.1 ?_)
    rw [hS, open_set h8 hy HyN.out]
  clear hS
  go_wp2_with fail
  refine (RList_any n y h8 hy).mono ?_
  rintro e w0 ⟨v0, rfl, hrow0, hB⟩
  rw [bits_mem n h8 y hy HyN.out] at hrow0
  obtain ⟨aw, cw, rfl, hW⟩ := ints_of_row (xs := (memL y).map (fun k : Nat => (k : Int))) (by rw [List.map_map]; exact hrow0) (by rw [List.length_map]) (by have := memL_len y; omega)
  have HW := Lib.hid hW
  clear hW hrow0
  go_wp2_with fail
  refine (RParse_any s HB.out (HA.out.below hB)).mono ?_
  rintro e w' ⟨rfl, rfl⟩
  rw [HRP.out]
  go_wp2_with fail
  refine (copied_any (HA.out.below hB) hr).mono ?_
  rintro e w1 ⟨a1, c1, rfl, hA1, hb1⟩
  have HA1 := Lib.hid hA1
  clear hA1
  have B1 := hB.trans (hb1.mono hB.size)
  go_wp2_with fail
  refine (String_any y (HE.out.below B1) (HT.out.below B1) HA1.out).mono ?_
  rintro e w2 ⟨rfl, hb2⟩
  rw [HSV.out]
  have B2 := B1.trans (hb2.mono B1.size)
  go_wp2_with fail
  refine (copied_any (HA.out.below B2) hr).mono ?_
  rintro e w3 ⟨a3, c3, rfl, hA3, hb3⟩
  have HA3 := Lib.hid hA3
  clear hA3
  have B3 := B2.trans (hb3.mono B2.size)
  go_wp2_with fail
  refine (List_any y (HE.out.below B3) (HT.out.below B3) HA3.out).mono ?_
  rintro e w4 ⟨v4, rfl, hrow, hb4⟩
  have B4 := B3.trans (hb4.mono B3.size)
  rw [HLL.out] at hrow
  rw [HSC.out]
  obtain ⟨a4, c4, rfl, hI4⟩ := ints_of_row (xs := (memL y).map (fun k : Nat => (k : Int))) (by rw [List.map_map]; exact hrow) (by rw [List.length_map]) (by have := memL_len y; omega)
  have HI4 := Lib.hid hI4
  clear hI4 hrow
  go_wp2_with fail
  refine (copied_any (HA.out.below B4) hr).mono ?_
  rintro e w5 ⟨a5, c5, rfl, hA5, hb5⟩
  have HA5 := Lib.hid hA5
  clear hA5
  have B5 := B4.trans (hb5.mono B4.size)
  go_wp2_with fail
  refine (Parse_any s hs (HE.out.below B5) HA5.out).mono ?_
  rintro e w6 ⟨rfl, hb6⟩
  have B6 := B5.trans (hb6.mono B5.size)
  rw [HPV.out]
  have HW6 : Hid (IntsIn w6 aw ((memL y).map fun k : Nat => (k : Int))) := Lib.hid (HW.out.cells.below ((((((hb1.trans (hb2.mono hb1.size)).trans (hb3.mono (Nat.le_trans hb1.size hb2.size))).trans (hb4.mono (Nat.le_trans (Nat.le_trans hb1.size hb2.size) hb3.size))).trans (hb5.mono (Nat.le_trans (Nat.le_trans (Nat.le_trans hb1.size hb2.size) hb3.size) hb4.size))).trans (hb6.mono (Nat.le_trans (Nat.le_trans (Nat.le_trans (Nat.le_trans hb1.size hb2.size) hb3.size) hb4.size) hb5.size)))))
  have b46 := hb5.trans (hb6.mono hb5.size)
  go_wp2_with fail
  refine (SameInts_any _ _ _ ((memL y).map fun k : Nat => (k : Int)) _ _ _ ((memL y).map fun k : Nat => (k : Int)) _ HI4.out.len HW.out.len HI4.out.big HW.out.big (HI4.out.cells.below b46) HW6.out).mono ?_
  rintro e w7 ⟨rfl, rfl⟩
  rw [decide_eq_true rfl]
  go_wp2_with fail
  refine (awake_any (HE.out.below B6) (HT.out.below B6)).mono ?_
  rintro e w8 ⟨rfl, hb8⟩
  go_wp2
  go_ret
  exact ⟨rfl, B6.trans (hb8.mono B6.size)⟩

set_option maxRecDepth 100000 in
set_option maxHeartbeats 8000000 in
theorem ActStrings_out_some {w : World} (x : Int) (s : ByteArray) {e0 e1 e2 : Addr} (E : Errs w e0 e1 e2) (T : Tab w) {a : Option Addr} {n c : Nat} {ss : List ByteArray} (A : StrArg w a n c ss) (hr : n * 16 ≤ 140737488351232) (hs : s.size ≤ 9223372036854775807) (hb : actsB ss = true) (hx : setB n x = false) {z : Nat} (ho : parseO ss s.data.toList = some z) :
    Calls Tryd.prog 4 #[.slice a n c, .int .i64 x, .string s] w fun e w' => e = .returned (.bool true) ∧ Below w.heap.size w w' := by
  have HIs := Lib.hid (Is_arg A)
  have HE := Lib.hid E
  have HT := Lib.hid T
  have HA := Lib.hid A
  have HB := Lib.hid hb
  have h8 : n ≤ 8 := by have := ((actsB_iff ss).1 hb).1; have := A.len; omega
  have HSt := Lib.hid (fun W => Set_any n x W (by omega))
  have HSC : Hid (setCode ss [x] = 1) := Lib.hid (by unfold setCode; rw [HB.out, List.all_cons, ← A.len, hx]; rfl)
  have HSV : Hid (stringV ss x = .tuple #[.string ⟨#[]⟩, .int .i64 1]) := Lib.hid (by unfold stringV; rw [HSC.out]; rfl)
  have HLL : Hid (listL ss x = []) := Lib.hid (by unfold listL; rw [HSC.out]; rfl)
  have HPV : Hid (ParseV ss s = .tuple #[.int .i64 z, .int .i64 0]) := Lib.hid (by unfold ParseV; rw [HB.out, ho]; rfl)
  have HRP : Hid (refParse ss s = .tuple #[.int .i64 z, .bool true]) := Lib.hid (by unfold refParse; rw [ho])
  have hB := Below.refl w.heap.size w
  have heq := bytes_same ⟨#[]⟩
  rw [hb] at HIs
  rw [hx] at HSt
  clear hb hx ho E T A
  go_enter Tryd.func4, Tryd.ntmps4
  go_wp2_with fail
  refine HIs.out.mono ?_
  rintro e w' ⟨rfl, rfl⟩
  go_wp2_with fail
  refine (HSt.out _).mono ?_
  rintro e w' ⟨rfl, rfl⟩
  go_wp2_with fail
  refine (RParse_any s HB.out HA.out).mono ?_
  rintro e w' ⟨rfl, rfl⟩
  rw [HRP.out]
  go_wp2_with fail
  refine (copied_any (HA.out.below hB) hr).mono ?_
  rintro e w1 ⟨a1, c1, rfl, hA1, hb1⟩
  have HA1 := Lib.hid hA1
  clear hA1
  have B1 := hB.trans (hb1.mono hB.size)
  go_wp2_with fail
  refine (String_any x (HE.out.below B1) (HT.out.below B1) HA1.out).mono ?_
  rintro e w2 ⟨rfl, hb2⟩
  rw [HSV.out]
  have B2 := B1.trans (hb2.mono B1.size)
  go_wp2_with fail
  refine (copied_any (HA.out.below B2) hr).mono ?_
  rintro e w3 ⟨a3, c3, rfl, hA3, hb3⟩
  have HA3 := Lib.hid hA3
  clear hA3
  have B3 := B2.trans (hb3.mono B2.size)
  go_wp2_with fail
  refine (List_any x (HE.out.below B3) (HT.out.below B3) HA3.out).mono ?_
  rintro e w4 ⟨v4, rfl, hrow, hb4⟩
  have B4 := B3.trans (hb4.mono B3.size)
  rw [HLL.out] at hrow
  rw [HSC.out]
  obtain ⟨a4, c4, rfl, hI4⟩ := ints_of_row (xs := ([] : List Nat).map (fun k : Nat => (k : Int))) (by rw [List.map_map]; exact hrow) (by rw [List.length_map]) (by simp)
  have HI4 := Lib.hid hI4
  clear hI4 hrow
  go_wp2_with fail
  refine (copied_any (HA.out.below B4) hr).mono ?_
  rintro e w5 ⟨a5, c5, rfl, hA5, hb5⟩
  have HA5 := Lib.hid hA5
  clear hA5
  have B5 := B4.trans (hb5.mono B4.size)
  go_wp2_with fail
  refine (Parse_any s hs (HE.out.below B5) HA5.out).mono ?_
  rintro e w6 ⟨rfl, hb6⟩
  have B6 := B5.trans (hb6.mono B5.size)
  rw [HPV.out]
  have b46 := hb5.trans (hb6.mono hb5.size)
  go_wp2_with fail
  refine (SameInts_any _ _ _ (([] : List Nat).map fun k : Nat => (k : Int)) _ _ _ (([] : List Nat).map fun k : Nat => (k : Int)) _ HI4.out.len rfl HI4.out.big (by simp) (HI4.out.cells.below b46) (IntsIn.nil _ _)).mono ?_
  rintro e w7 ⟨rfl, rfl⟩
  rw [decide_eq_true rfl]
  go_wp2_with fail
  refine (awake_any (HE.out.below B6) (HT.out.below B6)).mono ?_
  rintro e w8 ⟨rfl, hb8⟩
  go_wp2
  go_ret
  exact ⟨rfl, B6.trans (hb8.mono B6.size)⟩

set_option maxRecDepth 100000 in
set_option maxHeartbeats 8000000 in
theorem ActStrings_in_some {w : World} (y : Nat) (s : ByteArray) {e0 e1 e2 : Addr} (E : Errs w e0 e1 e2) (T : Tab w) {a : Option Addr} {n c : Nat} {ss : List ByteArray} (A : StrArg w a n c ss) (hr : n * 16 ≤ 140737488351232) (hs : s.size ≤ 9223372036854775807) (hb : actsB ss = true) (hx : setB n (y : Int) = true) {z : Nat} (ho : parseO ss s.data.toList = some z) :
    Calls Tryd.prog 4 #[.slice a n c, .int .i64 y, .string s] w fun e w' => e = .returned (.bool true) ∧ Below w.heap.size w w' := by
  have HIs := Lib.hid (Is_arg A)
  have HE := Lib.hid E
  have HT := Lib.hid T
  have HA := Lib.hid A
  have HB := Lib.hid hb
  have h8 : n ≤ 8 := by have := ((actsB_iff ss).1 hb).1; have := A.len; omega
  have HSt := Lib.hid (fun W => Set_any n y W (by omega))
  have hyN : (y : Int) < 2 ^ n := ((setB_iff n y).1 hx).2
  have h3 : ((2 ^ n : Nat) : Int) = (2 : Int) ^ n := by norm_cast
  have h2 : 2 ^ n ≤ 2 ^ 8 := Nat.pow_le_pow_right (by decide) h8
  have hy : y < 256 := by omega
  have HyN : Hid (y < 2 ^ n) := Lib.hid (by omega)
  have HSC : Hid (setCode ss [(y : Int)] = 0) := Lib.hid (by unfold setCode; rw [HB.out, List.all_cons, ← A.len, hx]; rfl)
  obtain ⟨S, HSe⟩ : ∃ S : ByteArray, Hid (S = ⟨(setS ss y).toArray⟩) := ⟨_, Lib.hid rfl⟩
  have HSV : Hid (stringV ss y = .tuple #[.string S, .int .i64 0]) := Lib.hid (by unfold stringV; rw [HSC.out, HSe.out]; rfl)
  have HLL : Hid (listL ss (y : Int) = memL y) := Lib.hid (by unfold listL; rw [HSC.out]; rfl)
  have HPV : Hid (ParseV ss s = .tuple #[.int .i64 z, .int .i64 0]) := Lib.hid (by unfold ParseV; rw [HB.out, ho]; rfl)
  have HRP : Hid (refParse ss s = .tuple #[.int .i64 z, .bool true]) := Lib.hid (by unfold refParse; rw [ho])
  have heq := bytes_same S
  rw [hb] at HIs
  rw [hx] at HSt
  clear hb hx ho E T A hyN h3 h2
  go_enter Tryd.func4, Tryd.ntmps4
  go_wp2_with fail
  refine HIs.out.mono ?_
  rintro e w' ⟨rfl, rfl⟩
  go_wp2_with fail
  refine (HSt.out _).mono ?_
  rintro e w' ⟨rfl, rfl⟩
  go_wp2_with fail
  refine (RString_any y hy HB.out HA.out).mono ?_
  rintro e w' ⟨⟨S', rfl, hS⟩, rfl⟩
  obtain rfl : S' = S := by
    rw [HSe.out]
    refine ByteArray.ext (Array.toList_inj.1 ?_)
    rw [hS, open_set h8 hy HyN.out]
  clear hS
  go_wp2_with fail
  refine (RList_any n y h8 hy).mono ?_
  rintro e w0 ⟨v0, rfl, hrow0, hB⟩
  rw [bits_mem n h8 y hy HyN.out] at hrow0
  obtain ⟨aw, cw, rfl, hW⟩ := ints_of_row (xs := (memL y).map (fun k : Nat => (k : Int))) (by rw [List.map_map]; exact hrow0) (by rw [List.length_map]) (by have := memL_len y; omega)
  have HW := Lib.hid hW
  clear hW hrow0
  go_wp2_with fail
  refine (RParse_any s HB.out (HA.out.below hB)).mono ?_
  rintro e w' ⟨rfl, rfl⟩
  rw [HRP.out]
  go_wp2_with fail
  refine (copied_any (HA.out.below hB) hr).mono ?_
  rintro e w1 ⟨a1, c1, rfl, hA1, hb1⟩
  have HA1 := Lib.hid hA1
  clear hA1
  have B1 := hB.trans (hb1.mono hB.size)
  go_wp2_with fail
  refine (String_any y (HE.out.below B1) (HT.out.below B1) HA1.out).mono ?_
  rintro e w2 ⟨rfl, hb2⟩
  rw [HSV.out]
  have B2 := B1.trans (hb2.mono B1.size)
  go_wp2_with fail
  refine (copied_any (HA.out.below B2) hr).mono ?_
  rintro e w3 ⟨a3, c3, rfl, hA3, hb3⟩
  have HA3 := Lib.hid hA3
  clear hA3
  have B3 := B2.trans (hb3.mono B2.size)
  go_wp2_with fail
  refine (List_any y (HE.out.below B3) (HT.out.below B3) HA3.out).mono ?_
  rintro e w4 ⟨v4, rfl, hrow, hb4⟩
  have B4 := B3.trans (hb4.mono B3.size)
  rw [HLL.out] at hrow
  rw [HSC.out]
  obtain ⟨a4, c4, rfl, hI4⟩ := ints_of_row (xs := (memL y).map (fun k : Nat => (k : Int))) (by rw [List.map_map]; exact hrow) (by rw [List.length_map]) (by have := memL_len y; omega)
  have HI4 := Lib.hid hI4
  clear hI4 hrow
  go_wp2_with fail
  refine (copied_any (HA.out.below B4) hr).mono ?_
  rintro e w5 ⟨a5, c5, rfl, hA5, hb5⟩
  have HA5 := Lib.hid hA5
  clear hA5
  have B5 := B4.trans (hb5.mono B4.size)
  go_wp2_with fail
  refine (Parse_any s hs (HE.out.below B5) HA5.out).mono ?_
  rintro e w6 ⟨rfl, hb6⟩
  have B6 := B5.trans (hb6.mono B5.size)
  rw [HPV.out]
  have HW6 : Hid (IntsIn w6 aw ((memL y).map fun k : Nat => (k : Int))) := Lib.hid (HW.out.cells.below ((((((hb1.trans (hb2.mono hb1.size)).trans (hb3.mono (Nat.le_trans hb1.size hb2.size))).trans (hb4.mono (Nat.le_trans (Nat.le_trans hb1.size hb2.size) hb3.size))).trans (hb5.mono (Nat.le_trans (Nat.le_trans (Nat.le_trans hb1.size hb2.size) hb3.size) hb4.size))).trans (hb6.mono (Nat.le_trans (Nat.le_trans (Nat.le_trans (Nat.le_trans hb1.size hb2.size) hb3.size) hb4.size) hb5.size)))))
  have b46 := hb5.trans (hb6.mono hb5.size)
  go_wp2_with fail
  refine (SameInts_any _ _ _ ((memL y).map fun k : Nat => (k : Int)) _ _ _ ((memL y).map fun k : Nat => (k : Int)) _ HI4.out.len HW.out.len HI4.out.big HW.out.big (HI4.out.cells.below b46) HW6.out).mono ?_
  rintro e w7 ⟨rfl, rfl⟩
  rw [decide_eq_true rfl]
  go_wp2_with fail
  refine (awake_any (HE.out.below B6) (HT.out.below B6)).mono ?_
  rintro e w8 ⟨rfl, hb8⟩
  go_wp2
  go_ret
  exact ⟨rfl, B6.trans (hb8.mono B6.size)⟩


theorem ActStrings_any {w : World} (x : Int) (s : ByteArray) {e0 e1 e2 : Addr} (E : Errs w e0 e1 e2) (T : Tab w) {a : Option Addr} {n c : Nat} {ss : List ByteArray} (A : StrArg w a n c ss) (hr : n * 16 ≤ 140737488351232) (_hx : (Lit.int .i64 x).wf = true) (hs : s.size ≤ maxLen) :
    Calls Tryd.prog 4 #[.slice a n c, .int .i64 x, .string s] w fun e w' => e = .returned (.bool true) ∧ Below w.heap.size w w' := by
  have hs' : s.size ≤ 9223372036854775807 := hs
  cases hb : actsB ss
  · exact ActStrings_no x s E T A hr hs' hb
  · cases hx : setB n x
    · cases ho : parseO ss s.data.toList
      · exact ActStrings_out_none x s E T A hr hs' hb hx ho
      · exact ActStrings_out_some x s E T A hr hs' hb hx ho
    · obtain ⟨y, rfl⟩ := Int.eq_ofNat_of_zero_le ((setB_iff n x).1 hx).1
      cases ho : parseO ss s.data.toList
      · exact ActStrings_in_none y s E T A hr hs' hb hx ho
      · exact ActStrings_in_some y s E T A hr hs' hb hx ho
end Go.Proofs.YtcbmlchlllpnoaaDoor
