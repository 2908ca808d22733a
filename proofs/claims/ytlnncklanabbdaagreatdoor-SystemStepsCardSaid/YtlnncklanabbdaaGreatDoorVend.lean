/- The vending machine of the laws; whether the program is awake on it. -/
import Derived.Test.YtlnncklanabbdaaGreatDoorOffer
import Derived.Test.YtlnncklanabbdaaGreatDoorSame2
import Derived.Test.YtlnncklanabbdaaGreatDoorIs2
import Derived.Test.YtlnncklanabbdaaGreatDoorCopy
import Derived.Test.YtlnncklanabbdaaGreatDoorSStr
namespace Go.Proofs.YtlnncklanabbdaaGreatDoor
open Go.RowKit Pl

def coin : ByteArray := mk [99, 111, 105, 110]
def tea : ByteArray := mk [116, 101, 97]
def vend : Syst := ⟨[coin, tea], [[(0, 1)], [(1, 0)]]⟩
def vendW (w : World) : World :=
  ((((w.alloc (.cells #[.slice (some ⟨w.heap.size + 1, 0, none⟩) 2 2, .slice (some ⟨w.heap.size + 1 + 1 + 1 + 1, 0, none⟩) 2 2] 25)).alloc
    (.cells #[.string coin, .string tea] 9)).alloc (.cells #[.int .i64 0, .int .i64 1] 81)).alloc (.cells #[.int .i64 1, .int .i64 0] 81)).alloc
    (.cells #[.slice (some ⟨w.heap.size + 1 + 1, 0, none⟩) 1 1, .slice (some ⟨w.heap.size + 1 + 1 + 1, 0, none⟩) 1 1] 77)
theorem vend_arg (w : World) : SysArg (vendW w) (some ⟨w.heap.size + 1, 0, none⟩) 2 2 (some ⟨w.heap.size + 1 + 1 + 1 + 1, 0, none⟩) 2 2 vend ∧ Below w.heap.size w (vendW w) := by
  have hb : ∀ (W : World) (o : Obj), Below W.heap.size W (W.alloc o) := fun W o => (Below.refl _ W).alloc (Nat.le_refl _) o
  constructor
  · have h1 := strs_new (w.alloc (.cells #[.slice (some ⟨w.heap.size + 1, 0, none⟩) 2 2, .slice (some ⟨w.heap.size + 1 + 1 + 1 + 1, 0, none⟩) 2 2] 25)) [coin, tea] (by decide) (fun x hx => by
      simp only [List.mem_cons, List.not_mem_nil, or_false] at hx
      rcases hx with rfl | rfl <;> decide)
    have h2 := ((h1.below (hb _ (.cells #[.int .i64 0, .int .i64 1] 81))).below (hb _ (.cells #[.int .i64 1, .int .i64 0] 81))).below (hb _ (.cells #[.slice (some ⟨w.heap.size + 1 + 1, 0, none⟩) 1 1, .slice (some ⟨w.heap.size + 1 + 1 + 1, 0, none⟩) 1 1] 77))
    simp only [World.size_alloc] at h2
    have hc := (Whole.new ((((w.alloc (.cells #[.slice (some ⟨w.heap.size + 1, 0, none⟩) 2 2, .slice (some ⟨w.heap.size + 1 + 1 + 1 + 1, 0, none⟩) 2 2] 25)).alloc
      (.cells #[.string coin, .string tea] 9)).alloc (.cells #[.int .i64 0, .int .i64 1] 81)).alloc (.cells #[.int .i64 1, .int .i64 0] 81)) 77 #[.slice (some ⟨w.heap.size + 1 + 1, 0, none⟩) 1 1, .slice (some ⟨w.heap.size + 1 + 1 + 1, 0, none⟩) 1 1])
    have hd := (Whole.new (((w.alloc (.cells #[.slice (some ⟨w.heap.size + 1, 0, none⟩) 2 2, .slice (some ⟨w.heap.size + 1 + 1 + 1 + 1, 0, none⟩) 2 2] 25)).alloc
      (.cells #[.string coin, .string tea] 9)).alloc (.cells #[.int .i64 0, .int .i64 1] 81)) 81 #[.int .i64 1, .int .i64 0]).alloc (.cells #[.slice (some ⟨w.heap.size + 1 + 1, 0, none⟩) 1 1, .slice (some ⟨w.heap.size + 1 + 1 + 1, 0, none⟩) 1 1] 77)
    have he := ((Whole.new ((w.alloc (.cells #[.slice (some ⟨w.heap.size + 1, 0, none⟩) 2 2, .slice (some ⟨w.heap.size + 1 + 1 + 1 + 1, 0, none⟩) 2 2] 25)).alloc
      (.cells #[.string coin, .string tea] 9)) 81 #[.int .i64 0, .int .i64 1]).alloc (.cells #[.int .i64 1, .int .i64 0] 81)).alloc (.cells #[.slice (some ⟨w.heap.size + 1 + 1, 0, none⟩) 1 1, .slice (some ⟨w.heap.size + 1 + 1 + 1, 0, none⟩) 1 1] 77)
    simp only [World.size_alloc] at hc hd he
    refine ⟨h2, by decide, (fun h => by cases h), rfl, by decide, by decide, fun i hi => ⟨w.heap.size + 1 + 1 + 1 + 1, 0, rfl, ?_⟩⟩
    have hi' : i = 0 ∨ i = 1 := by simp [vend] at hi; omega
    rcases hi' with rfl | rfl
    · refine ⟨some ⟨w.heap.size + 1 + 1, 0, none⟩, 1, 1, hc.cell 0, (fun h => by cases h), rfl, by decide, by decide, fun k hk => ⟨w.heap.size + 1 + 1, 0, rfl, ?_⟩⟩
      obtain rfl : k = 0 := by simp [vend, stAt] at hk; omega
      exact ⟨he.cell 0, he.cell 1⟩
    · refine ⟨some ⟨w.heap.size + 1 + 1 + 1, 0, none⟩, 1, 1, hc.cell 1, (fun h => by cases h), rfl, by decide, by decide, fun k hk => ⟨w.heap.size + 1 + 1 + 1, 0, rfl, ?_⟩⟩
      obtain rfl : k = 0 := by simp [vend, stAt] at hk; omega
      exact ⟨hd.cell 0, hd.cell 1⟩
  · have h0 := hb w (.cells #[.slice (some ⟨w.heap.size + 1, 0, none⟩) 2 2, .slice (some ⟨w.heap.size + 1 + 1 + 1 + 1, 0, none⟩) 2 2] 25)
    unfold vendW
    exact (((h0.alloc (by simp) _).alloc (by simp; omega) _).alloc (by simp; omega) _).alloc (by simp; omega) _
set_option maxRecDepth 100000 in
theorem vending_any (w : World) : Calls Tryz.prog 43 #[] w fun e w' => ∃ a c b d, e = .returned (.agg #[.slice a 2 c, .slice b 2 d]) ∧ SysArg w' a 2 c b 2 d vend ∧ Below w.heap.size w w' := by
  have HV := Lib.hid (vend_arg w)
  go_enter Tryz.func43, Tryz.ntmps43
  go_wp2
  exact bodyPost_ret (v := .agg #[.slice (some ⟨w.heap.size + 1, 0, none⟩) 2 2, .slice (some ⟨w.heap.size + 1 + 1 + 1 + 1, 0, none⟩) 2 2]) (by simp [results, Tryz.results43, go_sem]) rfl ⟨_, _, _, _, rfl, HV.out.1, HV.out.2⟩
theorem vend_ok : sysB vend = true := by decide
theorem dec0 : Lib.decDigits 0 = [48] := by unfold Lib.decDigits; rfl
theorem dec1 : Lib.decDigits 1 = [49] := by unfold Lib.decDigits; rfl
theorem vend_str : strS vend = [115, 121, 115, 116, 101, 109, 32, 99, 111, 105, 110, 32, 116, 101, 97, 10, 48, 58, 32, 99, 111, 105, 110, 32, 49, 10, 49, 58, 32, 116, 101, 97, 32, 48, 10] := by
  have e : List.range vend.states.length = [0, 1] := by decide
  have h0 : rowS vend.acts 0 (stAt vend.states 0) = [48, 58, 32, 99, 111, 105, 110, 32, 49] := by
    simp [rowS, edgeS, stAt, vend, nmS, dec0, dec1, at_, coin, tea, mk]
  have h1 : rowS vend.acts 1 (stAt vend.states 1) = [49, 58, 32, 116, 101, 97, 32, 48] := by
    simp [rowS, edgeS, stAt, vend, nmS, dec0, dec1, at_, coin, tea, mk]
  unfold strS strK
  rw [e]
  simp [h0, h1]
  decide
def vendT : ByteArray := ⟨#[115, 121, 115, 116, 101, 109, 32, 99, 111, 105, 110, 32, 116, 101, 97, 10, 48, 58, 32, 99, 111, 105, 110, 32, 49, 10, 49, 58, 32, 116, 101, 97, 32, 48]⟩
theorem vend_parse : parseS vendT.data.toList = (vend, 0) := by
  have h := parse_cut vend_ok (by rw [vend_str]; decide)
  rw [vend_str] at h
  exact h
theorem vend_offer : offerV vend 1 = 2 ∧ stC vend 1 = 0 := by decide
theorem vend_same : sameB vend vend = true := by decide
theorem chk_none : chk noSys = 20 := by decide

set_option maxRecDepth 100000 in
set_option maxHeartbeats 8000000 in
theorem awake_any {w : World} (E : Env w) : Calls Tryz.prog 14 #[] w fun e w' => e = .returned (.bool true) ∧ Below w.heap.size w w' := by
  go_enter Tryz.func14, Tryz.ntmps14
  have HE := Lib.hid E
  clear E
  go_wp2_with fail
  refine (vending_any _).mono ?_
  rintro e w1 ⟨a1, c1, b1, d1, rfl, hA1, hb1⟩
  have HS1 := Lib.hid (SString_any (HE.out.below hb1) hA1)
  have HB1 := Lib.hid hb1
  clear hA1 hb1
  go_wp2_with fail
  refine HS1.out.mono ?_
  rintro e w2 ⟨rfl, hb2⟩
  have HB2 := Lib.hid (HB1.out.trans (hb2.mono HB1.out.size))
  have HE2 := Lib.hid ((HE.out.below HB1.out).below hb2)
  clear hb2 HS1
  rw [sstrV_yes vend_ok, vend_str]
  have HP := Lib.hid (SParse_any vendT (by decide) w2 HE2.out)
  rw [vend_parse] at HP
  go_wp2_with fail
  refine HP.out.mono ?_
  rintro e w3 ⟨a3, n3, c3, b3, k3, d3, rfl, hA3, hb3⟩
  have hA3' := (hA3.below ((Below.refl _ w3).alloc (Nat.le_refl _) (.cells #[.slice a3 n3 c3, .slice b3 k3 d3] 25)))
  have hw3 := Whole.new w3 25 #[.slice a3 n3 c3, .slice b3 k3 d3]
  have HB3 := Lib.hid ((HB2.out.trans (hb3.mono HB2.out.size)).alloc (by have := HB2.out.size; have := hb3.size; omega) (.cells #[.slice a3 n3 c3, .slice b3 k3 d3] 25))
  have HE3 := Lib.hid (HE.out.below HB3.out)
  obtain ⟨w4, hw4⟩ : ∃ w4, w3.alloc (.cells #[.slice a3 n3 c3, .slice b3 k3 d3] 25) = w4 := ⟨_, rfl⟩
  rw [hw4] at HB3 HE3 hA3' hw3
  have HA3 := Lib.hid hA3'
  have HW3 := Lib.hid hw3
  have HW4 := Lib.hid hw4
  clear hA3 hb3 HP hA3' hw3 hw4
  go_wp2_with fail
  rw [HW4.out]
  refine (vending_any _).mono ?_
  rintro e w5 ⟨a5, c5, b5, d5, rfl, hA5, hb5⟩
  obtain ⟨e0, e1, e2, hErr⟩ := (HE3.out.below hb5).errs
  have HO := Lib.hid (Offer_any 1 (by decide) (by decide) hErr hA5)
  rw [vend_offer.1, vend_offer.2] at HO
  have HB5 := Lib.hid (HB3.out.trans (hb5.mono HB3.out.size))
  have HA5 := Lib.hid (HA3.out.below hb5)
  have hW5 := HW3.out.below hb5 HW3.out.lt
  have HErr := Lib.hid hErr
  clear hA5 hb5 hErr
  go_wp2_with fail
  refine HO.out.mono ?_
  rintro e w6 ⟨rfl, hb6⟩
  have HB6 := Lib.hid (HB5.out.trans (hb6.mono HB5.out.size))
  have HA6 := Lib.hid (HA5.out.below hb6)
  have HErr6 := Lib.hid (HErr.out.below hb6)
  have hW6 := hW5.below hb6 hW5.lt
  have HL := Lib.hid HB6.out.size
  have k0 := hW6.cell 0
  have k1 := hW6.cell 1
  simp only [List.getElem?_toArray, List.getElem?_cons_succ, List.getElem?_cons_zero] at k0 k1
  have hmk : mk [115, 121, 115, 116, 101, 109, 32, 99, 111, 105, 110, 32, 116, 101, 97, 10, 48, 58, 32, 99, 111, 105, 110, 32, 49, 10, 49, 58, 32, 116, 101, 97, 32, 48, 10] = ⟨#[115, 121, 115, 116, 101, 109, 32, 99, 111, 105, 110, 32, 116, 101, 97, 10, 48, 58, 32, 99, 111, 105, 110, 32, 49, 10, 49, 58, 32, 116, 101, 97, 32, 48, 10]⟩ := rfl
  simp only [hmk]
  clear hmk hb6 hW5 hW6 HO
  go_wp2
  go_region_held3 (fun w' => w'.cell? ⟨w3.heap.size, 0, none⟩ = some (.slice a3 n3 c3) ∧ w'.cell? ⟨w3.heap.size, 1, none⟩ = some (.slice b3 k3 d3))
    ((first | assumption | go_keep))
    (first
      | (go_at_call 43; refine (vending_any _).mono ?_; rintro e w7 ⟨a7, c7, b7, d7, rfl, hA7, hb7⟩; have kI := up_cell hb7 k0; have kJ := up_cell hb7 k1)
      | (go_at_call 16; refine (RSame_any ((HA6.out.below (Below.refl _ _).drew).below hb7) hA7).mono ?_; rw [vend_same]; rintro e w8 ⟨rfl, hb8⟩; have kK := up_cell hb8 kI; have kL := up_cell hb8 kJ)
      | (go_at_call 17; refine (SCheck_any (((HErr6.out.below (Below.refl _ _).drew).below hb7).below hb8) (sys_nil _)).mono ?_; rw [chk_none]; rintro e w9 ⟨rfl, hb9⟩; have kM := up_cell hb9 kK; have kN := up_cell hb9 kL))
  have s7 : w.heap.size ≤ w7.heap.size := Nat.le_trans HL.out hb7.size
  have s8 : w.heap.size ≤ w8.heap.size := Nat.le_trans s7 hb8.size
  have HF := Lib.hid (((HB6.out.drew.trans (hb7.mono HL.out)).trans (hb8.mono s7)).trans (hb9.mono s8))
  clear hb7 hb8 hb9 kI kJ kK kL kM kN
  go_wp2
  go_ret
  exact ⟨rfl, HF.out⟩
end Go.Proofs.YtlnncklanabbdaaGreatDoor
