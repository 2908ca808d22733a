/- The reference's Lines, Number, Actions. -/
import Derived.Test.YtlnncklanabbdaaGreatDoorRSplit
import Derived.Test.YtlnncklanabbdaaGreatDoorSParse
namespace Go.Proofs.YtlnncklanabbdaaGreatDoor
open Go.RowKit Pl

theorem ext_data (s : ByteArray) (k : Nat) : (s.extract 0 k).data.toList = s.data.toList.take k := by
  rw [Lib.extract_data, List.drop_zero, Nat.sub_zero]
theorem cut_yes {l : List UInt8} (h : 0 < l.length) (hc : l[l.length - 1] = 10) : cut1 l = l.take (l.length - 1) := by
  have e : l = l.take (l.length - 1) ++ [10] := by
    conv => lhs; rw [← List.take_append_drop (l.length - 1) l]
    congr 1
    rw [List.drop_eq_getElem_cons (by omega), hc, List.drop_eq_nil_of_le (by omega)]
  conv => lhs; rw [e]
  exact trim_snoc _
theorem cut_no {l : List UInt8} (h : 0 < l.length) (hc : l[l.length - 1] ≠ 10) : cut1 l = l := by
  have e : l = l.take (l.length - 1) ++ [l[l.length - 1]] := by
    conv => lhs; rw [← List.take_append_drop (l.length - 1) l]
    congr 1
    rw [List.drop_eq_getElem_cons (by omega), List.drop_eq_nil_of_le (by omega)]
  rw [e]
  exact cut_other _ (by simp) (by simpa using fun h => hc h.symm)

set_option maxRecDepth 100000 in
set_option maxHeartbeats 4000000 in
theorem RLines_any (s : ByteArray) (hs : s.size ≤ 1000000) (w : World) :
    Calls Tryz.prog 55 #[.string s] w fun e w' => ∃ a cap, e = .returned (.slice a (spB 10 (mk (cut1 s.data.toList))).length cap) ∧ StrArg w' a (spB 10 (mk (cut1 s.data.toList))).length cap (spB 10 (mk (cut1 s.data.toList))) ∧ (∀ ad, a = some ad → w.heap.size ≤ ad.block) ∧ Below w.heap.size w w' := by
  have HSZ := Lib.hid (Lib.size_eq s)
  by_cases h0 : 0 < s.size
  · have hl : 0 < s.data.toList.length := by rw [← Lib.size_eq]; exact h0
    have hlt : s.size - 1 < s.size := by omega
    have hsj : s.data.toList[s.data.toList.length - 1]'(by omega) = s[s.size - 1]'hlt := by
      simp [ByteArray.getElem_eq_getElem_data]
    by_cases hc : s.data.toList[s.data.toList.length - 1]'(by omega) = 10
    · have HC := Lib.hid (cut_yes hl hc)
      have hq : (((s[s.size - 1]'hlt).toNat : Int) == 10) = true := by rw [← hsj, hc]; rfl
      have HX : Hid (s.extract 0 (s.size - 1) = mk (cut1 s.data.toList)) := Lib.hid (by rw [HC.out, ← HSZ.out, ← ext_data, mk_of])
      have hr := RSplit_any (s.extract 0 (s.size - 1)) (by simp; omega) 10 w
      have h10 : ((10 : UInt8).toNat : Int) = 10 := rfl
      rw [HX.out, h10] at hr
      have HR := Lib.hid hr
      have h0' : (0 : Int) < s.size := by omega
      clear hc hsj hl hr h10
      go_enter Tryz.func55, Tryz.ntmps55
      go_wp2_with fail
      rw [HX.out]
      refine HR.out.mono ?_
      rintro e w1 ⟨a, cap, rfl, hA, hbl, hb⟩
      have HA := Lib.hid hA
      have HB := Lib.hid hb
      have HBL := Lib.hid hbl
      clear hA hb hbl
      go_wp2
      go_ret
      exact ⟨a, cap, rfl, HA.out, HBL.out, HB.out⟩
    · have HC := Lib.hid (cut_no hl hc)
      have hq : (((s[s.size - 1]'hlt).toNat : Int) == 10) = false := by
        rw [beq_eq_false_iff_ne, ← hsj]
        intro e
        exact hc (UInt8.toNat_inj.1 (by have h10 : (10 : UInt8).toNat = 10 := rfl; omega))
      have HX : Hid (s = mk (cut1 s.data.toList)) := Lib.hid (by rw [HC.out, mk_of])
      have hr := RSplit_any s hs 10 w
      have h10 : ((10 : UInt8).toNat : Int) = 10 := rfl
      rw [h10] at hr
      have HR := Lib.hid hr
      have h0' : (0 : Int) < s.size := by omega
      clear hc hsj hl hr h10
      rw [← HX.out]
      go_enter Tryz.func55, Tryz.ntmps55
      go_wp2_with fail
      refine HR.out.mono ?_
      rintro e w1 ⟨a, cap, rfl, hA, hbl, hb⟩
      have HA := Lib.hid hA
      have HB := Lib.hid hb
      have HBL := Lib.hid hbl
      clear hA hb hbl
      go_wp2
      go_ret
      exact ⟨a, cap, rfl, HA.out, HBL.out, HB.out⟩
  · have he : s.data.toList = [] := List.length_eq_zero_iff.1 (by rw [← Lib.size_eq]; omega)
    have HX : Hid (s = mk (cut1 s.data.toList)) := Lib.hid (by
      rw [he]
      have : s = mk s.data.toList := (mk_of s).symm
      rw [he] at this
      exact this)
    have hr := RSplit_any s hs 10 w
    have h10 : ((10 : UInt8).toNat : Int) = 10 := rfl
    rw [h10] at hr
    have HR := Lib.hid hr
    have h0' : ¬ (0 : Int) < s.size := by omega
    have h0'' : (s.size : Int) ≤ 0 := by omega
    clear he hr h10
    rw [← HX.out]
    go_enter Tryz.func55, Tryz.ntmps55
    go_wp2_with fail
    refine HR.out.mono ?_
    rintro e w1 ⟨a, cap, rfl, hA, hbl, hb⟩
    have HA := Lib.hid hA
    have HB := Lib.hid hb
    have HBL := Lib.hid hbl
    clear hA hb hbl
    go_wp2
    go_ret
    exact ⟨a, cap, rfl, HA.out, HBL.out, HB.out⟩
end Go.Proofs.YtlnncklanabbdaaGreatDoor
