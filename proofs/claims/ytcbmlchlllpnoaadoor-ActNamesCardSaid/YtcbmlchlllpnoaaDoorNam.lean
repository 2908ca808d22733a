/- ActNames: Check tells whether a list is a list of actions; Find returns the number of the action with a name, or the error. -/
import Derived.Test.YtcbmlchlllpnoaaDoorCopied
namespace Go.Proofs.YtcbmlchlllpnoaaDoor
open Go.RowKit Pl

set_option maxRecDepth 100000 in
set_option maxHeartbeats 2000000 in
theorem ActNames_any {w : World} {a : Option Addr} {n c : Nat} {ss : List ByteArray} {e0 e1 e2 : Addr} (s : ByteArray) (E : Errs w e0 e1 e2) (T : Tab w) (A : StrArg w a n c ss) (hr : n * 16 ≤ 140737488351232) (_hs : s.size ≤ maxLen) :
    Calls Tryd.prog 3 #[.slice a n c, .string s] w fun e w' => e = .returned (.bool true) ∧ Below w.heap.size w w' := by
  have HIs := Lib.hid (Is_arg A)
  have HIx := Lib.hid (Index_any a n c ss s w A.len A.big A.cells)
  have HE := Lib.hid E
  have HT := Lib.hid T
  have HA := Lib.hid A
  clear E T A
  obtain ⟨k, hk⟩ : ∃ k, Lib.idxOfS ss s = k := ⟨_, rfl⟩
  cases hb : actsB ss
  · have HV : Hid (findV ss s = .tuple #[.int .i64 0, .bool false, .int .i64 10]) := Lib.hid (by unfold findV; rw [hb]; rfl)
    have HC : Hid ((if actsB ss then (0 : Int) else 10) = 10) := Lib.hid (by rw [hb]; rfl)
    rw [hb] at HIs
    rw [hk] at HIx
    clear hb hk
    go_enter Tryd.func3, Tryd.ntmps3
    go_wp2_with fail
    refine HIs.out.mono ?_
    rintro e w1 ⟨rfl, rfl⟩
    go_wp2_with fail
    refine HIx.out.mono ?_
    rintro e w1 ⟨rfl, rfl⟩
    go_wp2_with fail
    refine (copied_any HA.out hr).mono ?_
    rintro e w1 ⟨a', c', rfl, hA1, hb1⟩
    have HA1 := Lib.hid hA1
    clear hA1
    go_wp2_with fail
    refine (Check_any (HE.out.below hb1) HA1.out).mono ?_
    rintro e w2 ⟨rfl, rfl⟩
    rw [HC.out]
    go_wp2_with fail
    refine (copied_any (HA.out.below hb1) hr).mono ?_
    rintro e w3 ⟨a3, c3, rfl, hA3, hb3⟩
    have HA3 := Lib.hid hA3
    clear hA3
    have b3 := hb1.trans (hb3.mono hb1.size)
    go_wp2_with fail
    refine (Find_any s (HE.out.below b3) HA3.out).mono ?_
    rintro e w4 ⟨rfl, rfl⟩
    rw [HV.out]
    go_wp2_with fail
    refine (awake_any (HE.out.below b3) (HT.out.below b3)).mono ?_
    rintro e w5 ⟨rfl, hb5⟩
    go_wp2
    go_ret
    exact ⟨rfl, b3.trans (hb5.mono b3.size)⟩
  · have HC : Hid ((if actsB ss then (0 : Int) else 10) = 0) := Lib.hid (by rw [hb]; rfl)
    have HV : Hid (findV ss s = if 0 ≤ k then .tuple #[.int .i64 k, .bool true, .int .i64 0] else .tuple #[.int .i64 0, .bool false, .int .i64 0]) := Lib.hid (by unfold findV; rw [hb, hk]; rfl)
    rw [hb] at HIs
    rw [hk] at HIx
    clear hb hk
    go_enter Tryd.func3, Tryd.ntmps3
    go_wp2_with fail
    refine HIs.out.mono ?_
    rintro e w1 ⟨rfl, rfl⟩
    go_wp2_with fail
    refine HIx.out.mono ?_
    rintro e w1 ⟨rfl, rfl⟩
    go_wp2_with fail
    refine (copied_any HA.out hr).mono ?_
    rintro e w1 ⟨a', c', rfl, hA1, hb1⟩
    have HA1 := Lib.hid hA1
    clear hA1
    go_wp2_with fail
    refine (Check_any (HE.out.below hb1) HA1.out).mono ?_
    rintro e w2 ⟨rfl, rfl⟩
    rw [HC.out]
    go_wp2_with fail
    refine (copied_any (HA.out.below hb1) hr).mono ?_
    rintro e w3 ⟨a3, c3, rfl, hA3, hb3⟩
    have HA3 := Lib.hid hA3
    clear hA3
    have b3 := hb1.trans (hb3.mono hb1.size)
    go_wp2_with fail
    refine (Find_any s (HE.out.below b3) HA3.out).mono ?_
    rintro e w4 ⟨rfl, rfl⟩
    rw [HV.out]
    by_cases h0 : 0 ≤ k
    · rw [if_pos h0]
      have hmax : max k 0 = k := by omega
      go_wp2_with fail
      refine (awake_any (HE.out.below b3) (HT.out.below b3)).mono ?_
      rintro e w5 ⟨rfl, hb5⟩
      go_wp2
      go_ret
      exact ⟨rfl, b3.trans (hb5.mono b3.size)⟩
    · rw [if_neg h0]
      have hmax : max k 0 = 0 := by omega
      go_wp2_with fail
      refine (awake_any (HE.out.below b3) (HT.out.below b3)).mono ?_
      rintro e w5 ⟨rfl, hb5⟩
      go_wp2
      go_ret
      refine ⟨?_, b3.trans (hb5.mono b3.size)⟩
      show Ending.returned (.bool !decide (0 ≤ k)) = _
      rw [decide_eq_false (show ¬ 0 ≤ k by omega)]
      rfl
end Go.Proofs.YtcbmlchlllpnoaaDoor
