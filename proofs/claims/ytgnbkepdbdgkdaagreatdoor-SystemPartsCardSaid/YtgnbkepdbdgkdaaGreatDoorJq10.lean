/- Texts joined: Vend, CopyA, SpecPl, Spec. -/
import Derived.Test.YtgnbkepdbdgkdaaGreatDoorJq08
import Derived.Test.YtgnbkepdbdgkdaaGreatDoorJq02
import Derived.Test.YtgnbkepdbdgkdaaGreatDoorJq09
import Derived.Test.YtgnbkepdbdgkdaaGreatDoorJq06
import Derived.Test.YtgnbkepdbdgkdaaGreatDoorJq01
/- The vending machine of the laws; whether the program is awake on it. -/
namespace Go.Proofs.YtgnbkepdbdgkdaaGreatDoor
open Go.RowKit Pl

def coin : ByteArray := mk [99, 111, 105, 110]
def tea : ByteArray := mk [116, 101, 97]
def vend : Syst := ⟨[coin, tea], [[(0, 1)], [(1, 0)]]⟩
def vendW (w : World) : World :=
  ((((w.alloc (.cells #[.slice (some ⟨w.heap.size + 1, 0, none⟩) 2 2, .slice (some ⟨w.heap.size + 1 + 1 + 1 + 1, 0, none⟩) 2 2] 25)).alloc
    (.cells #[.string coin, .string tea] 9)).alloc (.cells #[.int .i64 0, .int .i64 1] 87)).alloc (.cells #[.int .i64 1, .int .i64 0] 87)).alloc
    (.cells #[.slice (some ⟨w.heap.size + 1 + 1, 0, none⟩) 1 1, .slice (some ⟨w.heap.size + 1 + 1 + 1, 0, none⟩) 1 1] 77)
theorem vend_arg (w : World) : SysArg (vendW w) (some ⟨w.heap.size + 1, 0, none⟩) 2 2 (some ⟨w.heap.size + 1 + 1 + 1 + 1, 0, none⟩) 2 2 vend ∧ Below w.heap.size w (vendW w) := by
  have hb : ∀ (W : World) (o : Obj), Below W.heap.size W (W.alloc o) := fun W o => (Below.refl _ W).alloc (Nat.le_refl _) o
  constructor
  · have h1 := strs_new (w.alloc (.cells #[.slice (some ⟨w.heap.size + 1, 0, none⟩) 2 2, .slice (some ⟨w.heap.size + 1 + 1 + 1 + 1, 0, none⟩) 2 2] 25)) [coin, tea] (by decide) (fun x hx => by
      simp only [List.mem_cons, List.not_mem_nil, or_false] at hx
      rcases hx with rfl | rfl <;> decide)
    have h2 := ((h1.below (hb _ (.cells #[.int .i64 0, .int .i64 1] 87))).below (hb _ (.cells #[.int .i64 1, .int .i64 0] 87))).below (hb _ (.cells #[.slice (some ⟨w.heap.size + 1 + 1, 0, none⟩) 1 1, .slice (some ⟨w.heap.size + 1 + 1 + 1, 0, none⟩) 1 1] 77))
    simp only [World.size_alloc] at h2
    have hc := (Whole.new ((((w.alloc (.cells #[.slice (some ⟨w.heap.size + 1, 0, none⟩) 2 2, .slice (some ⟨w.heap.size + 1 + 1 + 1 + 1, 0, none⟩) 2 2] 25)).alloc
      (.cells #[.string coin, .string tea] 9)).alloc (.cells #[.int .i64 0, .int .i64 1] 87)).alloc (.cells #[.int .i64 1, .int .i64 0] 87)) 77 #[.slice (some ⟨w.heap.size + 1 + 1, 0, none⟩) 1 1, .slice (some ⟨w.heap.size + 1 + 1 + 1, 0, none⟩) 1 1])
    have hd := (Whole.new (((w.alloc (.cells #[.slice (some ⟨w.heap.size + 1, 0, none⟩) 2 2, .slice (some ⟨w.heap.size + 1 + 1 + 1 + 1, 0, none⟩) 2 2] 25)).alloc
      (.cells #[.string coin, .string tea] 9)).alloc (.cells #[.int .i64 0, .int .i64 1] 87)) 87 #[.int .i64 1, .int .i64 0]).alloc (.cells #[.slice (some ⟨w.heap.size + 1 + 1, 0, none⟩) 1 1, .slice (some ⟨w.heap.size + 1 + 1 + 1, 0, none⟩) 1 1] 77)
    have he := ((Whole.new ((w.alloc (.cells #[.slice (some ⟨w.heap.size + 1, 0, none⟩) 2 2, .slice (some ⟨w.heap.size + 1 + 1 + 1 + 1, 0, none⟩) 2 2] 25)).alloc
      (.cells #[.string coin, .string tea] 9)) 87 #[.int .i64 0, .int .i64 1]).alloc (.cells #[.int .i64 1, .int .i64 0] 87)).alloc (.cells #[.slice (some ⟨w.heap.size + 1 + 1, 0, none⟩) 1 1, .slice (some ⟨w.heap.size + 1 + 1 + 1, 0, none⟩) 1 1] 77)
    simp only [World.size_alloc] at hc hd he
    refine ⟨h2, by decide, (fun h => by cases h), rfl, by decide, by decide, fun i hi => ⟨w.heap.size + 1 + 1 + 1 + 1, 0, rfl, ?_⟩⟩
    have hi' : i = 0 ∨ i = 1 := by simp [vend] at hi; omega
    rcases hi' with rfl | rfl
    · refine ⟨some ⟨w.heap.size + 1 + 1, 0, none⟩, 1, 1, hc.cell 0, (fun h => by cases h), rfl, by decide, by decide, fun k hk => ⟨w.heap.size + 1 + 1, 0, rfl, ?_⟩⟩
      obtain rfl : k = 0 := by simp [vend, stAt] at hk; omega
      exact ⟨he.cell 0, he.cell 1⟩
    · refine ⟨some ⟨w.heap.size + 1 + 1 + 1, 0, none⟩, 1, 1, hc.cell 1, (fun h => by cases h), rfl, by decide, by decide, fun k hk => ⟨w.heap.size + 1 + 1 + 1, 0, rfl, ?_⟩⟩
      obtain rfl : k = 0 := by simp [vend, stAt] at hk; omega
      exact ⟨hd.cell 0, hd.cell 1⟩
  · have h0 := hb w (.cells #[.slice (some ⟨w.heap.size + 1, 0, none⟩) 2 2, .slice (some ⟨w.heap.size + 1 + 1 + 1 + 1, 0, none⟩) 2 2] 25)
    unfold vendW
    exact (((h0.alloc (by simp) _).alloc (by simp; omega) _).alloc (by simp; omega) _).alloc (by simp; omega) _
set_option maxRecDepth 100000 in
theorem vending_any (w : World) : Calls Tryz.prog 37 #[] w fun e w' => ∃ a c b d, e = .returned (.agg #[.slice a 2 c, .slice b 2 d]) ∧ SysArg w' a 2 c b 2 d vend ∧ Below w.heap.size w w' := by
  have HV := Lib.hid (vend_arg w)
  go_enter Tryz.func37, Tryz.ntmps37
  go_wp2
  exact bodyPost_ret (v := .agg #[.slice (some ⟨w.heap.size + 1, 0, none⟩) 2 2, .slice (some ⟨w.heap.size + 1 + 1 + 1 + 1, 0, none⟩) 2 2]) (by simp [results, Tryz.results37, go_sem]) rfl ⟨_, _, _, _, rfl, HV.out.1, HV.out.2⟩
theorem vend_ok : sysB vend = true := by decide
theorem dec0 : Lib.decDigits 0 = [48] := by unfold Lib.decDigits; rfl
theorem dec1 : Lib.decDigits 1 = [49] := by unfold Lib.decDigits; rfl
theorem vend_str : strS vend = [115, 121, 115, 116, 101, 109, 32, 99, 111, 105, 110, 32, 116, 101, 97, 10, 48, 58, 32, 99, 111, 105, 110, 32, 49, 10, 49, 58, 32, 116, 101, 97, 32, 48, 10] := by
  have e : List.range vend.states.length = [0, 1] := by decide
  have h0 : rowS vend.acts 0 (stAt vend.states 0) = [48, 58, 32, 99, 111, 105, 110, 32, 49] := by
    simp [rowS, edgeS, stAt, vend, nmS, dec0, dec1, at_, coin, tea, mk]
  have h1 : rowS vend.acts 1 (stAt vend.states 1) = [49, 58, 32, 116, 101, 97, 32, 48] := by
    simp [rowS, edgeS, stAt, vend, nmS, dec0, dec1, at_, coin, tea, mk]
  unfold strS strK
  rw [e]
  simp [h0, h1]
  decide
def vendTx : ByteArray := ⟨#[115, 121, 115, 116, 101, 109, 32, 99, 111, 105, 110, 32, 116, 101, 97, 10, 48, 58, 32, 99, 111, 105, 110, 32, 49, 10, 49, 58, 32, 116, 101, 97, 32, 48]⟩
theorem vend_parse : parseS vendTx.data.toList = (vend, 0) := by
  have h := parse_cut vend_ok (by rw [vend_str]; decide)
  rw [vend_str] at h
  exact h
theorem vend_offer : offerV vend 1 = 2 ∧ stC vend 1 = 0 := by decide
theorem vend_same : sameB vend vend = true := by decide
theorem chk_none : chk noSys = 20 := by decide

set_option maxRecDepth 100000 in
set_option maxHeartbeats 8000000 in
theorem awake_any {w : World} (E : Env w) : Calls Tryz.prog 8 #[] w fun e w' => e = .returned (.bool true) ∧ Below w.heap.size w w' := by
  go_enter Tryz.func8, Tryz.ntmps8
  have HE := Lib.hid E
  clear E
  go_wp2_with fail
  refine (vending_any _).mono ?_
  rintro e w1 ⟨a1, c1, b1, d1, rfl, hA1, hb1⟩
  have HS1 := Lib.hid (SString_any (HE.out.below hb1) hA1)
  have HB1 := Lib.hid hb1
  clear hA1 hb1
  go_wp2_with fail
  refine HS1.out.mono ?_
  rintro e w2 ⟨rfl, hb2⟩
  have HB2 := Lib.hid (HB1.out.trans (hb2.mono HB1.out.size))
  have HE2 := Lib.hid ((HE.out.below HB1.out).below hb2)
  clear hb2 HS1
  rw [sstrV_yes vend_ok, vend_str]
  have HP := Lib.hid (SParse_any vendTx (by decide) w2 HE2.out)
  rw [vend_parse] at HP
  go_wp2_with fail
  refine HP.out.mono ?_
  rintro e w3 ⟨a3, n3, c3, b3, k3, d3, rfl, hA3, hb3⟩
  have hA3' := (hA3.below ((Below.refl _ w3).alloc (Nat.le_refl _) (.cells #[.slice a3 n3 c3, .slice b3 k3 d3] 25)))
  have hw3 := Whole.new w3 25 #[.slice a3 n3 c3, .slice b3 k3 d3]
  have HB3 := Lib.hid ((HB2.out.trans (hb3.mono HB2.out.size)).alloc (by have := HB2.out.size; have := hb3.size; omega) (.cells #[.slice a3 n3 c3, .slice b3 k3 d3] 25))
  have HE3 := Lib.hid (HE.out.below HB3.out)
  obtain ⟨w4, hw4⟩ : ∃ w4, w3.alloc (.cells #[.slice a3 n3 c3, .slice b3 k3 d3] 25) = w4 := ⟨_, rfl⟩
  rw [hw4] at HB3 HE3 hA3' hw3
  have HA3 := Lib.hid hA3'
  have HW3 := Lib.hid hw3
  have HW4 := Lib.hid hw4
  clear hA3 hb3 HP hA3' hw3 hw4
  go_wp2_with fail
  rw [HW4.out]
  refine (vending_any _).mono ?_
  rintro e w5 ⟨a5, c5, b5, d5, rfl, hA5, hb5⟩
  obtain ⟨e0, e1, e2, hErr⟩ := (HE3.out.below hb5).errs
  have HO := Lib.hid (Offer_any 1 (by decide) (by decide) hErr hA5)
  rw [vend_offer.1, vend_offer.2] at HO
  have HB5 := Lib.hid (HB3.out.trans (hb5.mono HB3.out.size))
  have HA5 := Lib.hid (HA3.out.below hb5)
  have hW5 := HW3.out.below hb5 HW3.out.lt
  have HErr := Lib.hid hErr
  clear hA5 hb5 hErr
  go_wp2_with fail
  refine HO.out.mono ?_
  rintro e w6 ⟨rfl, hb6⟩
  have HB6 := Lib.hid (HB5.out.trans (hb6.mono HB5.out.size))
  have HA6 := Lib.hid (HA5.out.below hb6)
  have HErr6 := Lib.hid (HErr.out.below hb6)
  have hW6 := hW5.below hb6 hW5.lt
  have HL := Lib.hid HB6.out.size
  have k0 := hW6.cell 0
  have k1 := hW6.cell 1
  simp only [List.getElem?_toArray, List.getElem?_cons_succ, List.getElem?_cons_zero] at k0 k1
  have hmk : mk [115, 121, 115, 116, 101, 109, 32, 99, 111, 105, 110, 32, 116, 101, 97, 10, 48, 58, 32, 99, 111, 105, 110, 32, 49, 10, 49, 58, 32, 116, 101, 97, 32, 48, 10] = ⟨#[115, 121, 115, 116, 101, 109, 32, 99, 111, 105, 110, 32, 116, 101, 97, 10, 48, 58, 32, 99, 111, 105, 110, 32, 49, 10, 49, 58, 32, 116, 101, 97, 32, 48, 10]⟩ := rfl
  simp only [hmk]
  clear hmk hb6 hW5 hW6 HO
  go_wp2
  go_region_held3 (fun w' => w'.cell? ⟨w3.heap.size, 0, none⟩ = some (.slice a3 n3 c3) ∧ w'.cell? ⟨w3.heap.size, 1, none⟩ = some (.slice b3 k3 d3))
    ((first | assumption | go_keep))
    (first
      | (go_at_call 37; refine (vending_any _).mono ?_; rintro e w7 ⟨a7, c7, b7, d7, rfl, hA7, hb7⟩; have kI := up_cell hb7 k0; have kJ := up_cell hb7 k1)
      | (go_at_call 13; refine (RSame_any ((HA6.out.below (Below.refl _ _).drew).below hb7) hA7).mono ?_; rw [vend_same]; rintro e w8 ⟨rfl, hb8⟩; have kK := up_cell hb8 kI; have kL := up_cell hb8 kJ)
      | (go_at_call 40; refine (SCheck_any (((HErr6.out.below (Below.refl _ _).drew).below hb7).below hb8) (sys_nil _)).mono ?_; rw [chk_none]; rintro e w9 ⟨rfl, hb9⟩; have kM := up_cell hb9 kK; have kN := up_cell hb9 kL))
  have s7 : w.heap.size ≤ w7.heap.size := Nat.le_trans HL.out hb7.size
  have s8 : w.heap.size ≤ w8.heap.size := Nat.le_trans s7 hb8.size
  have HF := Lib.hid (((HB6.out.drew.trans (hb7.mono HL.out)).trans (hb8.mono s7)).trans (hb9.mono s8))
  clear hb7 hb8 hb9 kI kJ kK kL kM kN
  go_wp2
  go_ret
  exact ⟨rfl, HF.out⟩
end Go.Proofs.YtgnbkepdbdgkdaaGreatDoor
/- The reference's Copy, as an argument of another call. -/
namespace Go.Proofs.YtgnbkepdbdgkdaaGreatDoor
open Go.RowKit Pl

/-- a copy, as an argument of another call -/
theorem CopyA_any {w : World} {a : Option Addr} {n c : Nat} {b : Option Addr} {k d : Nat} {m : Syst} (A : SysArg w a n c b k d m) (hq : m.acts.length + m.states.length + total m.states ≤ 1000000) :
    Calls Tryz.prog 12 #[.agg #[.slice a n c, .slice b k d]] w fun e w' => ∃ a2 c2 b2 d2, e = .returned (.agg #[.slice a2 m.acts.length c2, .slice b2 m.states.length d2]) ∧ SysArg w' a2 m.acts.length c2 b2 m.states.length d2 m ∧ Below w.heap.size w w' := by
  refine (Copy_any A hq).mono ?_
  rintro e w2 ⟨va, vs, rfl, hO, hb2⟩
  obtain ⟨a2, c2, b2, d2, rfl, rfl, hA2⟩ := hO.arg (by omega) (by omega) (fun i hi => by have := total_take_le m.states (i + 1); have := total_take m.states i hi; omega) (fun k hk => A.acts.sz k (by have := A.acts.len; omega))
  exact ⟨a2, c2, b2, d2, rfl, hA2, hb2⟩
end Go.Proofs.YtgnbkepdbdgkdaaGreatDoor
/- Plain facts about specifications: validity, parts; nothing here is about a program. -/
namespace Go.Proofs.YtgnbkepdbdgkdaaGreatDoor.Pl
open Go Go.Lib

/-! ### x &^ L -/
theorem wrap_zero (r : BitVec 64) : IntKind.i64.wrap (r.toNat : Int) = 0 ↔ r = 0#64 := by
  have h := r.isLt
  rw [IntKind.wrap_i64]
  constructor
  · intro e
    apply BitVec.eq_of_toNat_eq
    simp only [BitVec.toNat_ofNat]
    omega
  · rintro rfl
    simp
theorem andNot_zero (x : Int) (h1 : -9223372036854775808 ≤ x) (h2 : x ≤ 9223372036854775807) (L : Nat) (hL : L < 256) :
    bits .andNot .i64 x (L : Int) = 0 ↔ (0 ≤ x ∧ ∀ a, a < 64 → x.toNat.testBit a = true → L.testBit a = true) := by
  show IntKind.i64.wrap ((BitVec.ofInt 64 x &&& ~~~(BitVec.ofInt 64 (L : Int))).toNat : Int) = 0 ↔ _
  rw [wrap_zero]
  have hLb : ∀ i, i < 64 → (BitVec.ofInt 64 (L : Int)).getLsbD i = L.testBit i := fun i hi => by
    rw [BitVec.ofInt_natCast, BitVec.getLsbD_ofNat]
    simp [hi]
  by_cases hx : 0 ≤ x
  · obtain ⟨n, rfl⟩ := Int.eq_ofNat_of_zero_le hx
    have hn : ∀ i, i < 64 → (BitVec.ofInt 64 (n : Int)).getLsbD i = n.testBit i := fun i hi => by
      rw [BitVec.ofInt_natCast, BitVec.getLsbD_ofNat]
      simp [hi]
    constructor
    · intro e
      refine ⟨by omega, fun a ha hb => ?_⟩
      have := congrArg (fun r : BitVec 64 => r.getLsbD a) e
      simp only [BitVec.getLsbD_and, BitVec.getLsbD_not, hn a ha, hLb a ha, BitVec.getLsbD_zero] at this
      simp only [Int.toNat_natCast] at hb
      rw [hb] at this
      simp [ha] at this
      exact this
    · rintro ⟨_, h⟩
      apply BitVec.eq_of_getLsbD_eq
      intro i hi
      rw [BitVec.getLsbD_and, BitVec.getLsbD_not, hn i hi, hLb i hi, BitVec.getLsbD_zero]
      have := h i hi
      simp only [Int.toNat_natCast] at this
      cases hb : n.testBit i
      · simp
      · rw [this hb]; simp
  · constructor
    · intro e
      exfalso
      have := congrArg (fun r : BitVec 64 => r.getLsbD 63) e
      simp only [BitVec.getLsbD_and, BitVec.getLsbD_not, hLb 63 (by decide), BitVec.getLsbD_zero] at this
      have hl : L.testBit 63 = false := Nat.testBit_lt_two_pow (Nat.lt_of_lt_of_le hL (by decide))
      have hm : (BitVec.ofInt 64 x).getLsbD 63 = true := by
        have hm2 : (BitVec.ofInt 64 x).toNat = (x % 18446744073709551616).toNat := by simp [BitVec.toNat_ofInt]
        have hb := BitVec.msb_eq_decide (BitVec.ofInt 64 x)
        rw [BitVec.msb_eq_getLsbD_last] at hb
        rw [show (64 - 1 : Nat) = 63 from rfl] at hb
        rw [hb, decide_eq_true_eq, hm2]
        omega
      rw [hl, hm] at this
      simp at this
    · rintro ⟨h, _⟩
      exact absurd h hx

/-- a state: the sets that it accepts, and the next states -/
abbrev Ste := List Int × List Int
structure Spc where
  acts : List ByteArray
  states : List Ste
def teAt (s : List Ste) (i : Nat) : Ste := s.getD i ([], [])
def okNext (ns : Nat) (k : Int) : Bool := decide (-1 ≤ k) && decide (k < ns)
theorem okNext_iff (ns : Nat) (k : Int) : okNext ns k = true ↔ -1 ≤ k ∧ k < ns := by simp [okNext]
def nextB (na ns : Nat) (next : List Int) : Bool := decide (next.length = na) && (List.range next.length).all (fun j => okNext ns (next.getD j 0))
theorem nextB_iff (na ns : Nat) (next : List Int) : nextB na ns next = true ↔ next.length = na ∧ ∀ j, j < next.length → okNext ns (next.getD j 0) = true := by
  simp only [nextB, Bool.and_eq_true, decide_eq_true_eq, List.all_eq_true, List.mem_range]
/-- an action that leads on -/
def leadP (next : List Int) (a : Nat) : Bool := decide (a < next.length) && decide (next.getD a 0 ≠ -1)
/-- the set of the actions that lead on -/
def leadN (next : List Int) : Nat → Nat
  | 0 => 0
  | j + 1 => if next.getD j 0 ≠ -1 then leadN next j ||| 2 ^ j else leadN next j
theorem leadN_bit (next : List Int) (a : Nat) : ∀ j, (leadN next j).testBit a = (decide (a < j) && decide (next.getD a 0 ≠ -1))
  | 0 => by simp [leadN]
  | j + 1 => by
    have ih := leadN_bit next a j
    unfold leadN
    by_cases h : next.getD j 0 ≠ -1
    · rw [if_pos h, Nat.testBit_or, ih, Nat.testBit_two_pow]
      by_cases e : a = j
      · subst e
        rw [decide_eq_true h]
        simp
      · rw [decide_eq_false (fun e2 : j = a => e e2.symm), Bool.or_false]
        congr 1
        rw [decide_eq_decide]
        omega
    · rw [if_neg h, ih]
      by_cases e : a = j
      · subst e
        rw [decide_eq_false h]
        simp
      · congr 1
        rw [decide_eq_decide]
        omega
theorem leadN_lt (next : List Int) : ∀ j, j ≤ 8 → leadN next j < 256
  | 0, _ => by simp [leadN]
  | j + 1, h => by
    have ih := leadN_lt next j (by omega)
    unfold leadN
    split
    · exact Nat.or_lt_two_pow (n := 8) ih (Nat.pow_lt_pow_right (by decide) (by omega))
    · exact ih
def okSet (next : List Int) (x : Int) : Bool := decide (0 ≤ x) && (List.range 64).all (fun a => !(x.toNat.testBit a) || leadP next a)
theorem okSet_iff (next : List Int) (x : Int) : okSet next x = true ↔ 0 ≤ x ∧ ∀ a, a < 64 → x.toNat.testBit a = true → leadP next a = true := by
  simp only [okSet, Bool.and_eq_true, decide_eq_true_eq, List.all_eq_true, List.mem_range, Bool.or_eq_true, Bool.not_eq_true']
  constructor
  · rintro ⟨h0, h⟩
    exact ⟨h0, fun a ha hb => by
      rcases h a ha with h | h
      · rw [hb] at h; cases h
      · exact h⟩
  · rintro ⟨h0, h⟩
    exact ⟨h0, fun a ha => by
      cases hb : x.toNat.testBit a
      · exact .inl rfl
      · exact .inr (h a ha hb)⟩
theorem okSet_lead {next : List Int} (hn : next.length ≤ 8) (x : Int) (h1 : -9223372036854775808 ≤ x) (h2 : x ≤ 9223372036854775807) :
    (bits .andNot .i64 x (leadN next next.length : Int) = 0) ↔ okSet next x = true := by
  rw [andNot_zero x h1 h2 _ (leadN_lt next _ hn), okSet_iff]
  simp only [leadN_bit, leadP]
def risB (acc : List Int) (i : Nat) : Bool := decide (i = 0) || decide (acc.getD (i - 1) 0 < acc.getD i 0)
def accB (acc next : List Int) : Bool := (List.range acc.length).all (fun i => okSet next (acc.getD i 0) && risB acc i)
theorem accB_iff (acc next : List Int) : accB acc next = true ↔ ∀ i, i < acc.length → okSet next (acc.getD i 0) = true ∧ risB acc i = true := by
  simp only [accB, List.all_eq_true, List.mem_range, Bool.and_eq_true]
theorem accB_bad {acc next : List Int} {i : Nat} (hi : i < acc.length) (h : okSet next (acc.getD i 0) = false ∨ risB acc i = false) : accB acc next = false := by
  rw [Bool.eq_false_iff, Ne, accB_iff]
  intro h'
  obtain ⟨a, b⟩ := h' i hi
  rcases h with h | h
  · rw [a] at h; cases h
  · rw [b] at h; cases h
def steB (na ns : Nat) (t : Ste) : Bool := nextB na ns t.2 && accB t.1 t.2
/-- a valid specification -/
def spcB (s : Spc) : Bool := actsB s.acts && decide (1 ≤ s.states.length) && decide (s.states.length ≤ 500) && (List.range s.states.length).all (fun i => steB s.acts.length s.states.length (teAt s.states i))
theorem spcB_iff (s : Spc) : spcB s = true ↔ actsB s.acts = true ∧ 1 ≤ s.states.length ∧ s.states.length ≤ 500 ∧ ∀ i, i < s.states.length → steB s.acts.length s.states.length (teAt s.states i) = true := by
  simp only [spcB, Bool.and_eq_true, decide_eq_true_eq, List.all_eq_true, List.mem_range, and_assoc]
theorem spcB_acts {s : Spc} (h : actsB s.acts = false) : spcB s = false := by simp [spcB, h]
theorem spcB_few {s : Spc} (h : s.states.length < 1) : spcB s = false := by
  rw [Bool.eq_false_iff, Ne, spcB_iff]; omega
theorem spcB_many {s : Spc} (h : 500 < s.states.length) : spcB s = false := by
  rw [Bool.eq_false_iff, Ne, spcB_iff]; omega
theorem spcB_ste {s : Spc} (i : Nat) (hi : i < s.states.length) (h : steB s.acts.length s.states.length (teAt s.states i) = false) : spcB s = false := by
  rw [Bool.eq_false_iff, Ne, spcB_iff]
  rintro ⟨_, _, _, h'⟩
  rw [h' i hi] at h; cases h
/-- the numbers of its states -/
def totalS (s : List Ste) : Nat := (s.map fun t => t.1.length + t.2.length).sum
theorem totalS_snoc (s : List Ste) (t : Ste) : totalS (s ++ [t]) = totalS s + (t.1.length + t.2.length) := by simp [totalS]
theorem totalS_take (s : List Ste) (k : Nat) (h : k < s.length) : totalS (s.take (k + 1)) = totalS (s.take k) + ((teAt s k).1.length + (teAt s k).2.length) := by
  rw [take_next s k ([], []) h, totalS_snoc]; rfl
theorem totalS_take_le (s : List Ste) : ∀ (k : Nat), totalS (s.take k) ≤ totalS s := by
  intro k
  have e : totalS s = totalS (s.take k) + totalS (s.drop k) := by
    unfold totalS
    rw [List.map_take, List.map_drop, ← List.sum_append, List.take_append_drop]
  omega
def fewS (s : Spc) (most : Nat) : Bool := decide (s.acts.length + s.states.length + totalS s.states ≤ most)
theorem fewS_iff (s : Spc) (most : Nat) : fewS s most = true ↔ s.acts.length + s.states.length + totalS s.states ≤ most := by simp [fewS]
end Go.Proofs.YtgnbkepdbdgkdaaGreatDoor.Pl
/- A specification in memory; the reference's Few; spec.Check. -/
namespace Go.Proofs.YtgnbkepdbdgkdaaGreatDoor
open Go.RowKit Pl

/-- numbers of ints that lie in memory -/
structure NumsArg (w : World) (a : Option Addr) (n c : Nat) (xs : List Int) : Prop where
  arg : IntArg w a n c xs
  few : n ≤ 17592186044416
  rng : ∀ j, j < xs.length → -9223372036854775808 ≤ xs.getD j 0 ∧ xs.getD j 0 ≤ 9223372036854775807
theorem NumsArg.below {w w' : World} {a : Option Addr} {n c : Nat} {xs : List Int} (h : NumsArg w a n c xs) (hb : Below w.heap.size w w') : NumsArg w' a n c xs := ⟨h.arg.below hb, h.few, h.rng⟩
/-- the states: each two slices -/
def StesIn (w : World) (b : Option Addr) (ss : List Ste) : Prop :=
  ∀ i, i < ss.length → ∃ bb off, b = some ⟨bb, off, none⟩ ∧ ∃ a1 n1 c1 a2 n2 c2, w.cell? ⟨bb, off + i * 2, none⟩ = some (.slice a1 n1 c1) ∧ w.cell? ⟨bb, off + i * 2 + 1, none⟩ = some (.slice a2 n2 c2) ∧
    NumsArg w a1 n1 c1 (teAt ss i).1 ∧ NumsArg w a2 n2 c2 (teAt ss i).2
theorem StesIn.below {w w' : World} {b : Option Addr} {ss : List Ste} (h : StesIn w b ss) (hb : Below w.heap.size w w') : StesIn w' b ss := fun i hi => by
  obtain ⟨bb, off, e, a1, n1, c1, a2, n2, c2, h1, h2, h3, h4⟩ := h i hi
  exact ⟨bb, off, e, a1, n1, c1, a2, n2, c2, (hb.cell (lt_of_cell h1)).trans h1, (hb.cell (lt_of_cell h2)).trans h2, h3.below hb, h4.below hb⟩
/-- a specification as its two slices hold it -/
structure SpecArg (w : World) (a : Option Addr) (n c : Nat) (b : Option Addr) (k d : Nat) (s : Spc) : Prop where
  acts : StrArg w a n c s.acts
  abig : n ≤ 140737488355328
  nil : b = none → d = 0
  len : k = s.states.length
  cap : k ≤ d
  big : k ≤ 140737488355328
  rows : StesIn w b s.states
theorem SpecArg.below {w w' : World} {a : Option Addr} {n c : Nat} {b : Option Addr} {k d : Nat} {s : Spc} (h : SpecArg w a n c b k d s) (hb : Below w.heap.size w w') : SpecArg w' a n c b k d s :=
  ⟨h.acts.below hb, h.abig, h.nil, h.len, h.cap, h.big, h.rows.below hb⟩

theorem fewS_no {s : Spc} {most i : Nat} (h : most < s.acts.length + s.states.length + totalS (s.states.take i)) : fewS s most = false := by
  have := totalS_take_le s.states i
  rw [Bool.eq_false_iff, Ne, fewS_iff]; omega
set_option maxHeartbeats 1000000 in
theorem SFew_any {w : World} {a : Option Addr} {n c : Nat} {b : Option Addr} {k d : Nat} {s : Spc} (most : Nat) (hm : most ≤ 4611686018427387904) (A : SpecArg w a n c b k d s) :
    Calls Tryz.prog 21 #[.agg #[.slice a n c, .slice b k d], .int .i64 most] w fun e w' => e = .returned (.bool (fewS s most)) ∧ Below w.heap.size w w' := by
  have HA := Lib.hid A
  have h1 : n ≤ 140737488355328 := A.abig
  have h2 : k ≤ 140737488355328 := A.big
  have hB := (Below.refl w.heap.size w).alloc (Nat.le_refl _) (.cells #[.slice a n c, .slice b k d] 52)
  have HX := Lib.hid (hB.cell (p := ⟨w.heap.size, 1, none⟩))
  have HB := Lib.hid hB
  clear A hB HX
  go_enter Tryz.func21, Tryz.ntmps21
  go_wp2
  go_loopw [5, 6] (fun q i wr => ∃ j t : Nat, j ≤ k ∧ i = .int .i64 j ∧ q = .int .i64 t ∧ Hid (t = s.acts.length + s.states.length + totalS (s.states.take j)) ∧ t ≤ 4611686018427387904 + 281474976710656 ∧ Below (w.heap.size + 1) (w.alloc (.cells #[.slice a n c, .slice b k d] 52)) wr) (fun _ i _ => k - (intOf i).toNat)
  case atStart => exact ⟨0, n + k, Nat.zero_le _, rfl, by go_num, Lib.hid (by have := HA.out.len; have := HA.out.acts.len; simp [totalS]; omega), by omega, Below.refl _ _⟩
  case round =>
    obtain ⟨j, t, hj, rfl, rfl, ht, htb, hb⟩ := hrel
    have q1 : wr.cell? ⟨w.heap.size, 1, none⟩ = some (.slice b k d) := by rw [hb.cell (by simp)]; simp
    have HBr := Lib.hid hb
    have HBw := Lib.hid (HB.out.trans (hb.mono (by omega)))
    clear hb
    by_cases hlt : j < k
    · by_cases hle : t ≤ most
      · obtain ⟨bb, off, rfl, a1, n1, c1, a2, n2, c2, d1, d2, hN1, hN2⟩ := (HA.out.rows.below HBw.out) j (by have := HA.out.len; omega)
        have h3 := hN1.few
        have h4 := hN2.few
        have HT : Hid (t + (n1 + n2) = s.acts.length + s.states.length + totalS (s.states.take (j + 1))) := Lib.hid (by
          have := ht.out; have := totalS_take s.states j (by have := HA.out.len; omega); have := hN1.arg.len; have := hN2.arg.len; omega)
        have hj0 : (0 : Int) ≤ (j : Int) := by omega
        have hj1 : (j : Int) < (k : Int) := by omega
        have hw1 : IntKind.i64.wrap ((n1 : Int) + n2) = (n1 : Int) + n2 := IntWalk.i64_in _ (by omega)
        have hw2 : IntKind.i64.wrap ((t : Int) + ((n1 : Int) + n2)) = (t : Int) + ((n1 : Int) + n2) := IntWalk.i64_in _ (by omega)
        clear hN1 hN2
        go_wp2
        go_quiet (fail)
        go_wp2
        go_roundw
        case rel => exact ⟨j + 1, t + (n1 + n2), by omega, by go_num, by go_num, HT, by omega, below_drewN HBr.out _⟩
        case measure => simp [intOf]; omega
      · have HV := Lib.hid (fewS_no (s := s) (most := most) (i := j) (by have := ht.out; omega))
        go_wp2
        go_ret
        exact ⟨by rw [HV.out]; rfl, HBw.out⟩
    · have HT : Hid (fewS s most = decide (t ≤ most)) := Lib.hid (by
        have := ht.out
        rw [List.take_of_length_le (by have := HA.out.len; omega)] at this
        rw [this]; rfl)
      by_cases hle : t ≤ most
      · have HV : Hid (fewS s most = true) := Lib.hid (by rw [HT.out]; exact decide_eq_true hle)
        go_wp2
        go_ret
        exact ⟨by rw [HV.out]; rfl, HBw.out⟩
      · have HV : Hid (fewS s most = false) := Lib.hid (by rw [HT.out]; exact decide_eq_false hle)
        go_wp2
        go_ret
        exact ⟨by rw [HV.out]; rfl, HBw.out⟩

set_option maxHeartbeats 1000000 in
theorem isNext_any {w : World} {a : Option Addr} {n c : Nat} {next : List Int} (na ns : Nat) (hna : na ≤ 9223372036854775807) (_hns : ns ≤ 9223372036854775807) (A : IntArg w a n c next) :
    Calls Tryz.prog 77 #[.slice a n c, .int .i64 na, .int .i64 ns] w fun e w' => e = .returned (.bool (nextB na ns next)) ∧ w = w' := by
  have HA := Lib.hid A
  have HL := Lib.hid A.len
  have hbig : n ≤ 9223372036854775807 := A.big
  clear A
  by_cases hl : n = na
  · subst hl
    have hq : ((n : Int) != n) = false := by simp
    go_enter Tryz.func77, Tryz.ntmps77
    go_wp2
    go_loop [8, 15] (fun _ i => ∃ j : Nat, j ≤ n ∧ i = .int .i64 j ∧ Hid (∀ x, x < j → okNext ns (next.getD x 0) = true)) (fun _ i => n - (intOf i).toNat)
    case atStart => exact ⟨0, Nat.zero_le _, rfl, Lib.hid fun x hx => by omega⟩
    case round =>
      obtain ⟨j, hj, rfl, hg⟩ := hrel
      by_cases hlt : j < n
      · obtain ⟨bl, ol, rfl, c1⟩ := HA.out.cells j (by have := HL.out; omega)
        obtain ⟨x, HX⟩ : ∃ x, Hid (next.getD j 0 = x) := ⟨_, Lib.hid rfl⟩
        rw [HX.out] at c1
        cases hok : okNext ns x
        · have HB : Hid (nextB n ns next = false) := Lib.hid (by
            rw [Bool.eq_false_iff, Ne, nextB_iff]
            rintro ⟨_, h⟩
            have := h j (by have := HL.out; omega)
            rw [HX.out, hok] at this
            cases this)
          have hno : x < -1 ∨ (ns : Int) ≤ x := by
            rw [Bool.eq_false_iff, Ne, okNext_iff] at hok
            omega
          have hne : (x != -1) = true := by rw [bne_iff_ne]; omega
          clear hok
          rcases hno with h | h
          · have hx0 : x < 0 := by omega
            go_wp2
            go_ret
            exact ⟨by rw [HB.out]; rfl, rfl⟩
          · have hx0 : ¬ x < 0 := by omega
            go_wp2
            go_ret
            exact ⟨by rw [HB.out]; rfl, rfl⟩
        · have HG : Hid (∀ z, z < j + 1 → okNext ns (next.getD z 0) = true) := Lib.hid fun z hz => by
            by_cases e : z = j
            · rw [e, HX.out]; exact hok
            · exact hg.out z (by omega)
          have hyes := (okNext_iff _ _).1 hok
          clear hok
          by_cases hm : x = -1
          · have hne : (x != -1) = false := by rw [bne_eq_false_iff_eq]; exact hm
            clear hm
            go_wp2
            go_round
            case rel => exact ⟨j + 1, by omega, by go_num, HG⟩
            case measure => simp [intOf]; omega
          · have hne : (x != -1) = true := by rw [bne_iff_ne]; exact hm
            have hx0 : ¬ x < 0 := by omega
            have hx1 : ¬ (ns : Int) ≤ x := by omega
            clear hm
            go_wp2
            go_round
            case rel => exact ⟨j + 1, by omega, by go_num, HG⟩
            case measure => simp [intOf]; omega
      · have HB : Hid (nextB n ns next = true) := Lib.hid ((nextB_iff _ _ _).2 ⟨HL.out.symm, fun z hz => hg.out z (by have := HL.out; omega)⟩)
        go_wp2
        go_ret
        exact ⟨by rw [HB.out]; rfl, rfl⟩
  · have hq : ((n : Int) != na) = true := by rw [bne_iff_ne]; omega
    have HB : Hid (nextB na ns next = false) := Lib.hid (by
      rw [Bool.eq_false_iff, Ne, nextB_iff]
      rintro ⟨h, _⟩
      have := HL.out
      omega)
    clear hl
    go_enter Tryz.func77, Tryz.ntmps77
    go_wp2
    go_ret
    exact ⟨by rw [HB.out]; rfl, rfl⟩

set_option maxHeartbeats 2000000 in
theorem isAccept_any {w : World} {a : Option Addr} {n c : Nat} {acc : List Int} {a2 : Option Addr} {n2 c2 : Nat} {next : List Int} (A : NumsArg w a n c acc) (N : IntArg w a2 n2 c2 next) (h8 : next.length ≤ 8) :
    Calls Tryz.prog 78 #[.slice a n c, .slice a2 n2 c2] w fun e w' => e = .returned (.bool (accB acc next)) ∧ w = w' := by
  have HA := Lib.hid A.arg
  have HR := Lib.hid A.rng
  have HL := Lib.hid A.arg.len
  have HN := Lib.hid N
  have HNL := Lib.hid N.len
  have hbig : n ≤ 17592186044416 := A.few
  have hn8 : n2 ≤ 8 := by have := N.len; omega
  have H8 := Lib.hid h8
  clear A N h8
  go_enter Tryz.func78, Tryz.ntmps78
  go_wp2
  go_loop [5, 6, 7, 12] (fun q _ _ i => ∃ j t : Nat, j ≤ n2 ∧ i = .int .i64 j ∧ q = .int .i64 t ∧ t < 256 ∧ Hid (t = leadN next j)) (fun _ _ _ i => n2 - (intOf i).toNat)
  case atStart => exact ⟨0, 0, Nat.zero_le _, rfl, rfl, by decide, Lib.hid rfl⟩
  case round =>
    obtain ⟨j, t, hj, rfl, rfl, ht, htb⟩ := hrel
    by_cases hlt : j < n2
    · obtain ⟨bl, ol, rfl, c1⟩ := HN.out.cells j (by have := HNL.out; omega)
      obtain ⟨x, HX⟩ : ∃ x, Hid (next.getD j 0 = x) := ⟨_, Lib.hid rfl⟩
      rw [HX.out] at c1
      by_cases hm : x = -1
      · have hne : (x != -1) = false := by rw [bne_eq_false_iff_eq]; exact hm
        have HT : Hid (t = leadN next (j + 1)) := Lib.hid (by rw [leadN, if_neg (by rw [HX.out, hm]; simp)]; exact htb.out)
        clear hm
        go_wp2
        go_round
        case rel => exact ⟨j + 1, t, by omega, by go_num, rfl, ht, HT⟩
        case measure => simp [intOf]; omega
      · have hne : (x != -1) = true := by rw [bne_iff_ne]; exact hm
        obtain ⟨R, HRr⟩ : ∃ R : Nat, Hid (R = t ||| 2 ^ j) := ⟨_, Lib.hid rfl⟩
        have hR : R < 256 := by rw [HRr.out]; exact Nat.or_lt_two_pow (n := 8) ht (Nat.pow_lt_pow_right (by decide) (by omega))
        have HT : Hid (R = leadN next (j + 1)) := Lib.hid (by rw [leadN, if_pos (by rw [HX.out]; exact hm), ← htb.out]; exact HRr.out)
        have HO : Hid (bits .or .i64 (t : Int) (wrap64 (2 ^ j)) = (R : Int)) := Lib.hid (by
          have h2 := pow_le j (by omega)
          have h3 : ((2 ^ j : Nat) : Int) = (2 : Int) ^ j := by norm_cast
          have h4 : 2 ^ j < 256 := Nat.pow_lt_pow_right (n := 8) (by decide) (by omega)
          rw [IntWalk.wrap64_in _ ⟨by omega, by omega⟩, ← h3, HRr.out]
          exact i64_or_nat t _ (by omega) (by omega))
        clear hm
        go_wp2
        rw [HO.out]
        go_wp2
        go_round
        case rel => exact ⟨j + 1, R, by omega, by go_num, rfl, hR, HT⟩
        case measure => simp [intOf]; omega
    · have HT : Hid (t = leadN next next.length) := Lib.hid (by rw [htb.out, show j = next.length from by have := HNL.out; omega])
      go_wp2
      go_loop [8, 9, 26] (fun _ _ i => ∃ y : Nat, y ≤ n ∧ i = .int .i64 y ∧ Hid (∀ z, z < y → okSet next (acc.getD z 0) = true ∧ risB acc z = true)) (fun _ _ i => n - (intOf i).toNat)
      case atStart => exact ⟨0, Nat.zero_le _, rfl, Lib.hid fun x hx => by omega⟩
      case round =>
        obtain ⟨y, hy, rfl, hg⟩ := hrel
        by_cases hlt2 : y < n
        · obtain ⟨bl, ol, rfl, c1⟩ := HA.out.cells y (by have := HL.out; omega)
          obtain ⟨x, HX⟩ : ∃ x, Hid (acc.getD y 0 = x) := ⟨_, Lib.hid rfl⟩
          have hrx := HR.out y (by have := HL.out; omega)
          rw [HX.out] at c1 hrx
          have hos := okSet_lead H8.out x hrx.1 hrx.2
          rw [← HT.out] at hos
          cases hok : okSet next x
          · have hq : (bits .andNot .i64 x (t : Int) != 0) = true := by rw [bne_iff_ne]; intro e; rw [hos.1 e] at hok; cases hok
            have HB : Hid (accB acc next = false) := Lib.hid (accB_bad (i := y) (by have := HL.out; omega) (.inl (by rw [HX.out]; exact hok)))
            clear hok hos
            go_wp2
            go_ret
            exact ⟨by rw [HB.out]; rfl, rfl⟩
          · have hq : (bits .andNot .i64 x (t : Int) != 0) = false := by rw [bne_eq_false_iff_eq]; exact hos.2 hok
            have HOk : Hid (okSet next (acc.getD y 0) = true) := Lib.hid (by rw [HX.out]; exact hok)
            clear hok hos
            by_cases h0 : 0 < y
            · obtain ⟨p, rfl⟩ : ∃ p, y = p + 1 := ⟨y - 1, by omega⟩
              obtain ⟨bl', ol', e, c3⟩ := HA.out.cells p (by have := HL.out; omega)
              cases e
              obtain ⟨z, HZ⟩ : ∃ z, Hid (acc.getD p 0 = z) := ⟨_, Lib.hid rfl⟩
              rw [HZ.out] at c3
              have hg1 : decide ((0 : Int) < (p + 1 : Nat)) = true := decide_eq_true (by omega)
              have hk1 : IntKind.i64.wrap (p : Int) = (p : Int) := IntWalk.i64_in _ (by omega)
              have hk2 : (0 : Int) ≤ (p : Int) := by omega
              have hk4 : (p : Int) < n := by omega
              by_cases hzx : z < x
              · have HG : Hid (∀ q, q < p + 1 + 1 → okSet next (acc.getD q 0) = true ∧ risB acc q = true) := Lib.hid fun q hq => by
                  by_cases e : q = p + 1
                  · rw [e]
                    refine ⟨HOk.out, ?_⟩
                    unfold risB
                    rw [Nat.add_sub_cancel, HX.out, HZ.out, decide_eq_true hzx, Bool.or_true]
                  · exact hg.out q (by omega)
                have hzx2 : ¬ x ≤ z := by omega
                go_wp2
                go_round
                case rel => exact ⟨p + 1 + 1, by omega, by go_num, HG⟩
                case measure => simp [intOf]; omega
              · have HB : Hid (accB acc next = false) := Lib.hid (accB_bad (i := p + 1) (by have := HL.out; omega) (.inr (by
                  unfold risB
                  rw [Nat.add_sub_cancel, HX.out, HZ.out, decide_eq_false hzx]
                  simp)))
                have hzx2 : x ≤ z := by omega
                go_wp2
                go_ret
                exact ⟨by rw [HB.out]; rfl, rfl⟩
            · have hg1 : decide ((0 : Int) < y) = false := decide_eq_false (by omega)
              have HG : Hid (∀ q, q < y + 1 → okSet next (acc.getD q 0) = true ∧ risB acc q = true) := Lib.hid fun q hq => by
                obtain rfl : q = y := by omega
                refine ⟨HOk.out, ?_⟩
                unfold risB
                rw [decide_eq_true (show q = 0 by omega), Bool.true_or]
              go_wp2
              go_round
              case rel => exact ⟨y + 1, by omega, by go_num, HG⟩
              case measure => simp [intOf]; omega
        · have HB : Hid (accB acc next = true) := Lib.hid ((accB_iff _ _).2 fun z hz => hg.out z (by have := HL.out; omega))
          go_wp2
          go_ret
          exact ⟨by rw [HB.out]; rfl, rfl⟩
end Go.Proofs.YtgnbkepdbdgkdaaGreatDoor
