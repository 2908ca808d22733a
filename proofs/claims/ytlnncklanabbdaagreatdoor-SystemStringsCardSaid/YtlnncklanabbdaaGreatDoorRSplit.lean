/- The reference's Split. -/
import Derived.Test.YtlnncklanabbdaaGreatDoorRStr
import Derived.Test.YtlnncklanabbdaaGreatDoorSplit2
import Derived.Test.YtlnncklanabbdaaGreatDoorPState
namespace Go.Proofs.YtlnncklanabbdaaGreatDoor
open Go.RowKit Pl

/-- where a split stands: i bytes are read, the part under way begins at f -/
def SplAt (c : UInt8) (l : List UInt8) (i f : Nat) (pre : List (List UInt8)) : Prop := f ≤ i ∧ i ≤ l.length ∧ c ∉ (l.drop f).take (i - f) ∧ sp c l = pre ++ sp c (l.drop f) ∧ pre.length ≤ f
theorem SplAt.start (c : UInt8) (l : List UInt8) : SplAt c l 0 0 [] := ⟨Nat.le_refl _, Nat.zero_le _, by simp, by simp, by simp⟩
theorem drop_take_next (l : List UInt8) (f i : Nat) (hf : f ≤ i) (hi : i < l.length) : (l.drop f).take (i + 1 - f) = (l.drop f).take (i - f) ++ [l[i]] := by
  rw [show i + 1 - f = (i - f) + 1 by omega, List.take_succ_eq_append_getElem (by rw [List.length_drop]; omega), List.getElem_drop]
  congr 3
  omega
theorem SplAt.miss {c : UInt8} {l : List UInt8} {i f : Nat} {pre : List (List UInt8)} (h : SplAt c l i f pre) (hi : i < l.length) (hc : l[i] ≠ c) : SplAt c l (i + 1) f pre := by
  obtain ⟨h1, h2, h3, h4, h5⟩ := h
  refine ⟨by omega, hi, ?_, h4, h5⟩
  rw [drop_take_next l f i h1 hi, List.mem_append]
  rintro (h | h)
  · exact h3 h
  · exact hc (List.mem_singleton.1 h).symm
theorem SplAt.hit {c : UInt8} {l : List UInt8} {i f : Nat} {pre : List (List UInt8)} (h : SplAt c l i f pre) (hi : i < l.length) (hc : l[i] = c) : SplAt c l (i + 1) (i + 1) (pre ++ [(l.drop f).take (i - f)]) := by
  obtain ⟨h1, h2, h3, h4, h5⟩ := h
  refine ⟨Nat.le_refl _, hi, by simp, ?_, by simp; omega⟩
  have e : l.drop f = (l.drop f).take (i - f) ++ c :: l.drop (i + 1) := by
    have e1 : (l.drop f).drop (i - f) = c :: l.drop (i + 1) := by
      rw [List.drop_drop, show f + (i - f) = i by omega, List.drop_eq_getElem_cons hi, hc]
    rw [← e1, List.take_append_drop]
  rw [h4, List.append_assoc]
  congr 1
  conv => lhs; rw [e]
  rw [sp_app c _ _ h3]
  rfl
theorem SplAt.fin {c : UInt8} {l : List UInt8} {f : Nat} {pre : List (List UInt8)} (h : SplAt c l l.length f pre) : sp c l = pre ++ [l.drop f] := by
  obtain ⟨h1, h2, h3, h4, h5⟩ := h
  rw [List.take_of_length_le (by rw [List.length_drop]; omega)] at h3
  rw [h4, sp_plain c _ h3]

theorem strs_row {w : World} {base : Nat} {v : Value} {n : Nat} {ss : List ByteArray} (h : w.ownsRow base 9 1 v n (ss.map Value.string)) (hn : n = ss.length) (hbig : n ≤ 9223372036854775807) (hs : ∀ k, k < n → (at_ ss k).size ≤ 9223372036854775807) :
    ∃ a c, v = .slice a n c ∧ StrArg w a n c ss ∧ ∀ ad, a = some ad → base ≤ ad.block := by
  rcases h.2 with ⟨rfl, rfl⟩ | ⟨g, cap, cur, rfl, hg, hh, hc, hm, hz, ht⟩
  · exact ⟨none, 0, rfl, ⟨fun _ => rfl, hn, Nat.le_refl _, hbig, hs, fun j hj => by omega⟩, fun _ h => by cases h⟩
  · refine ⟨some ⟨g, 0, none⟩, cap, rfl, ⟨(fun h => by cases h), hn, hc, hbig, hs, fun j hj => ⟨g, 0, rfl, ?_⟩⟩, fun ad e => by cases e; exact hg⟩
    have h9 := h.cells (g := g) rfl j (.string (ss.getD j ByteArray.empty)) (by rw [List.getElem?_map, List.getElem?_eq_getElem hj]; simp [List.getD, hj])
    rw [add_plainly] at h9
    rw [Nat.zero_add]
    rw [Nat.zero_add] at h9
    exact h9

set_option maxRecDepth 100000 in
set_option maxHeartbeats 4000000 in
theorem RSplit_any (s : ByteArray) (hs : s.size ≤ 1000000) (c : UInt8) (w : World) :
    Calls Tryz.prog 95 #[.string s, .int .u8 (c.toNat : Int)] w fun e w' => ∃ a cap, e = .returned (.slice a (spB c s).length cap) ∧ StrArg w' a (spB c s).length cap (spB c s) ∧ (∀ ad, a = some ad → w.heap.size ≤ ad.block) ∧ Below w.heap.size w w' := by
  obtain ⟨i0, hi, hz0, hz1, hz2⟩ := info_parts infoString
  have HSZ := Lib.hid (Lib.size_eq s)
  go_enter Tryz.func95, Tryz.ntmps95
  go_wp2
  go_loopw [5, 6, 7, 10] (fun v fr _ i wr => ∃ (j f : Nat) (pre : List (List UInt8)), j ≤ s.size ∧ i = .int .i64 j ∧ fr = .int .i64 f ∧ f ≤ j ∧ wr.ownsRow w.heap.size 9 1 v pre.length (pre.map fun b => Value.string (mk b)) ∧ Hid (SplAt c s.data.toList j f pre) ∧ Below w.heap.size w wr) (fun _ _ _ i _ => s.size - (intOf i).toNat)
  case atStart => exact ⟨0, 0, [], Nat.zero_le _, rfl, rfl, Nat.le_refl _, World.ownsRow_nil _ _ _ _, Lib.hid (SplAt.start _ _), Below.refl _ _⟩
  case round =>
    obtain ⟨j, f, pre, hj, rfl, rfl, hf, hown, hsp, hb⟩ := hrel
    obtain ⟨va, vc, rfl⟩ := own_slice hown
    have HO := Lib.hid hown
    have HB := Lib.hid hb
    have hz := hb.size
    have hpl : pre.length ≤ 1000000 := by have := hsp.out.2.2.2.2; omega
    clear hown hb
    by_cases hlt : j < s.size
    · have hj' : j < s.data.toList.length := by rw [← HSZ.out]; exact hlt
      have hsj : s.data.toList[j] = s[j]'hlt := by simp [ByteArray.getElem_eq_getElem_data]
      by_cases hc : s.data.toList[j] = c
      · have HN := Lib.hid (hsp.out.hit hj' hc)
        have hq : (((s[j]'hlt).toNat : Int) == (c.toNat : Int)) = true := by rw [← hsj, hc]; simp
        obtain ⟨X, HX⟩ : ∃ X : ByteArray, Hid (s.extract f j = X) := ⟨_, Lib.hid rfl⟩
        have HXe : Hid (X = mk ((s.data.toList.drop f).take (j - f))) := Lib.hid (by rw [← HX.out, ← Lib.extract_data, mk_of])
        have hal : Below wr.heap.size wr (wr.alloc (.cells #[.string X] 9)) := (Below.refl _ wr).alloc (Nat.le_refl _) _
        have hjf : (f : Int) ≤ j := by omega
        go_wp2_with (at_builtin; (rw [HX.out]; refine wpList_append_sz rfl (.tmp 18) (.tmp 23) 22 rfl w.heap.size 9 i0 (.string ⟨#[]⟩) 1 16 Tryz.underlying22 hi hz0 hz1 hz2 rfl (by decide) (.slice va pre.length vc) rfl pre.length _ (HO.out.alloc _) (some ⟨wr.heap.size, 0, none⟩) 1 1 rfl [.string X] (fun h => by cases h) rfl (one_src _ _ _) (by simp [Value.oneCell']) (by unfold maxLen; omega) (by omega) (by simp; omega) ?_); intro v1 w2 hown hg hat; clear hat; refine Hid.out ?_)
        refine Lib.hid ?_
        have e1 : (pre.map fun b => Value.string (mk b)) ++ [.string X] = (pre ++ [(s.data.toList.drop f).take (j - f)]).map fun b => Value.string (mk b) := by rw [HXe.out]; simp
        have e2 : pre.length + 1 = (pre ++ [(s.data.toList.drop f).take (j - f)]).length := by simp
        rw [e1, e2] at hown
        have HO2 := Lib.hid hown
        have HB2 := Lib.hid ((HB.out.trans (hal.mono hz)).grown hg (by simp; omega) (own_ge HO.out))
        clear hown hg e1 e2 hal
        go_wp2
        go_roundw
        case rel => exact ⟨j + 1, j + 1, _, by omega, by go_num, by go_num, Nat.le_refl _, HO2.out, HN, HB2.out⟩
        case measure => simp [intOf]; omega
      · have HN := Lib.hid (hsp.out.miss hj' hc)
        have hq : (((s[j]'hlt).toNat : Int) == (c.toNat : Int)) = false := by
          rw [beq_eq_false_iff_ne, ← hsj]
          intro e
          exact hc (UInt8.toNat_inj.1 (by omega))
        go_wp2
        go_roundw
        case rel => exact ⟨j + 1, f, pre, by omega, by go_num, rfl, by omega, HO.out, HN, HB.out⟩
        case measure => simp [intOf]; omega
    · obtain rfl : j = s.size := by omega
      have hfin := hsp.out
      rw [HSZ.out] at hfin
      have HF := Lib.hid hfin.fin
      obtain ⟨X, HX⟩ : ∃ X : ByteArray, Hid (s.extract f s.size = X) := ⟨_, Lib.hid rfl⟩
      have HXe : Hid (X = mk (s.data.toList.drop f)) := Lib.hid (by rw [← HX.out, ← Lib.extract_to_end, mk_of])
      have hal : Below wr.heap.size wr (wr.alloc (.cells #[.string X] 9)) := (Below.refl _ wr).alloc (Nat.le_refl _) _
      have hjf : (f : Int) ≤ s.size := by omega
      clear hfin
      go_wp2_with (at_builtin; (rw [HX.out]; refine wpList_append_sz rfl (.tmp 28) (.tmp 32) 22 rfl w.heap.size 9 i0 (.string ⟨#[]⟩) 1 16 Tryz.underlying22 hi hz0 hz1 hz2 rfl (by decide) (.slice va pre.length vc) rfl pre.length _ (HO.out.alloc _) (some ⟨wr.heap.size, 0, none⟩) 1 1 rfl [.string X] (fun h => by cases h) rfl (one_src _ _ _) (by simp [Value.oneCell']) (by unfold maxLen; omega) (by omega) (by simp; omega) ?_); intro v1 w2 hown hg hat; clear hat; refine Hid.out ?_)
      refine Lib.hid ?_
      have e0 : (spB c s).map Value.string = (pre.map fun b => Value.string (mk b)) ++ [.string X] := by
        unfold spB
        rw [HF.out, HXe.out]
        simp
      have e2 : (spB c s).length = pre.length + 1 := by unfold spB; rw [HF.out]; simp
      rw [← e0, ← e2] at hown
      have HB2 := Lib.hid ((HB.out.trans (hal.mono hz)).grown hg (by simp; omega) (own_ge HO.out))
      have hst : ∃ a cap, v1 = .slice a (spB c s).length cap ∧ StrArg w2 a (spB c s).length cap (spB c s) ∧ ∀ ad, a = some ad → w.heap.size ≤ ad.block := by
        exact strs_row hown rfl (by rw [e2]; omega) (fun k hk => Nat.le_trans (spB_size (at_in _ _ hk)) (by omega))
      obtain ⟨a1, cap1, rfl, hS⟩ := hst
      have HS := Lib.hid hS
      clear hown hg e0 e2 hal hS
      go_wp2
      go_ret
      exact ⟨_, _, rfl, HS.out.1, HS.out.2, HB2.out⟩
end Go.Proofs.YtlnncklanabbdaaGreatDoor
