/- The reference's Head. -/
import Derived.Test.YtlnncklanabbdaaGreatDoorBytes
namespace Go.Proofs.YtlnncklanabbdaaGreatDoor
open Go.RowKit Pl

theorem one_byte (W : World) (x : UInt8) (t : TypeId) : Src Tryz.prog 1 88 (.slice (some ⟨W.heap.size, 0, none⟩) 1 1) [x].length ([x].map byteV) (W.alloc (.cells #[byteV x] t)) := by
  refine Src.ofSlice _ Tryz.underlying88 ⟨W.heap.size, 0, none⟩ 1 1 ([x].map byteV) rfl (fun j u hu => ?_) (fun u hu => ?_)
  · have hj : j = 0 := by
      have := (List.getElem?_eq_some_iff.1 hu).1
      simp at this
      omega
    subst hj
    rw [add_plainly]
    exact ((Whole.new W t #[byteV x]).cell 0).trans hu
  · simp only [List.map_cons, List.map_nil, List.mem_singleton] at hu
    subst hu; rfl
theorem str_src (W : World) (s : ByteArray) : Src Tryz.prog 1 9 (.string s) s.data.toList.length (s.data.toList.map byteV) W := by
  have h := Src.ofString (P := Tryz.prog) W Tryz.underlying9 s
  rw [← Lib.size_eq]
  exact h
set_option maxRecDepth 100000 in
set_option maxHeartbeats 4000000 in
theorem Head_any {w : World} {a : Option Addr} {n c : Nat} {acts : List ByteArray} (A : StrArg w a n c acts) (hact : actsB acts = true) :
    Calls Tryz.prog 53 #[.string (mk bSystem), .slice a n c] w fun e w' => ∃ v, e = .returned v ∧ BRow w.heap.size w' v (headS acts ++ [10]) ∧ Below w.heap.size w w' := by
  obtain ⟨i0, hi, hz0, hz1, hz2⟩ := info_parts infoByte
  have hac8 := ((actsB_iff acts).1 hact).1
  have hn : n ≤ 8 := by have := A.len; omega
  have HACT := Lib.hid hact
  have HA := Lib.hid A
  obtain ⟨v0, hr0, hrow0, hb0⟩ := BRow.ofString w bSystem (by decide)
  obtain ⟨w1, hw1⟩ : ∃ w1, Lib.bytesWorld w 5 (mk bSystem) = w1 := ⟨_, rfl⟩
  rw [hw1] at hr0 hrow0 hb0
  have HRow0 := Lib.hid hrow0
  have HB0 := Lib.hid hb0
  clear A hact hac8 hrow0 hb0 hw1
  go_enter Tryz.func53, Tryz.ntmps53
  go_wp2_with (rw [hr0])
  go_loopw [5, 7, 12] (fun v _ i wr => ∃ j : Nat, j ≤ n ∧ i = .int .i64 j ∧ BRow w.heap.size wr v (headP acts j) ∧ Below w.heap.size w wr) (fun _ _ i _ => n - (intOf i).toNat)
  case atStart => exact ⟨0, Nat.zero_le _, rfl, by rw [headP_zero]; exact HRow0.out, HB0.out⟩
  case round =>
    obtain ⟨j, hj, rfl, hrow, hb⟩ := hrel
    obtain ⟨va, vc, rfl⟩ := hrow.slice
    have HL := Lib.hid (headP_len HACT.out j)
    have hz := hb.size
    have hal : ∀ x, Below wr.heap.size wr (wr.alloc (.cells #[byteV x] 5)) := fun x => (Below.refl _ wr).alloc (Nat.le_refl _) _
    have HAl := Lib.hid hal
    have HRow := Lib.hid hrow
    have HB := Lib.hid hb
    clear hrow hb hal
    by_cases hlt : j < n
    · obtain ⟨b, off, rfl, c1⟩ := HA.out.cells.below HB.out j (by have := HA.out.len; omega)
      obtain ⟨x, HX⟩ : ∃ x, Hid (at_ acts j = x) := ⟨_, Lib.hid rfl⟩
      change wr.cell? _ = some (.string (at_ acts j)) at c1
      rw [HX.out] at c1
      have HN := Lib.hid (headP_next acts j (by have := HA.out.len; omega))
      have HL1 := Lib.hid (headP_len HACT.out (j + 1))
      go_wp2_with (at_builtin; (refine wpList_append_bytes rfl (.tmp 16) (.tmp 17) 88 88 rfl w.heap.size 5 i0 Tryz.underlying88 hi hz0 hz1 hz2 (.slice va (headP acts j).length vc) rfl (headP acts j) (HRow.out.below (HAl.out 32)) (by simp; omega) (.slice (some ⟨wr.heap.size, 0, none⟩) 1 1) rfl [32] (one_byte wr 32 _) (by have := HL.out; simp; omega) ?_); intro v1 wA hA1 hgA; refine Hid.out ?_)
      refine Lib.hid ?_
      obtain ⟨v1a, v1c, rfl⟩ := hA1.slice
      have hzA := hgA.size
      have HBA := Lib.hid (((HB.out.trans ((HAl.out 32).mono hz)).grown hgA (by simp; omega) HRow.out.ge))
      have HA1 := Lib.hid hA1
      have HX2 := Lib.hid (HN.out)
      rw [HX.out] at HX2
      have HXl : Hid ((headP acts j ++ [32]).length + x.data.toList.length ≤ 140737488355328) := Lib.hid (by
        have h1 := HL1.out
        rw [HX2.out] at h1
        simp only [List.length_append] at h1 ⊢
        omega)
      clear hA1 hgA
      go_wp2_with (at_builtin; (refine wpList_append_bytes rfl (.tmp 18) (.tmp 19) 88 9 rfl w.heap.size 5 i0 Tryz.underlying88 hi hz0 hz1 hz2 _ rfl (headP acts j ++ [32]) HA1.out (by simp at hzA; omega) (.string x) rfl x.data.toList (str_src wA x) HXl.out ?_); intro v2 wB hB1 hgB; refine Hid.out ?_)
      refine Lib.hid ?_
      have HBB := Lib.hid (HBA.out.grown hgB (by simp at hzA; omega) HA1.out.ge)
      rw [List.append_assoc, ← HX2.out] at hB1
      have HB1 := Lib.hid hB1
      clear hB1 hgB
      go_wp2
      go_roundw
      case rel => exact ⟨j + 1, by omega, by go_num, HB1.out, HBB.out⟩
      case measure => simp [intOf]; omega
    · obtain rfl : j = n := by omega
      have HE : Hid (headP acts j = headS acts) := Lib.hid (by rw [HA.out.len, headP_all])
      go_wp2_with (at_builtin; (refine wpList_append_bytes rfl (.tmp 22) (.tmp 23) 88 88 rfl w.heap.size 5 i0 Tryz.underlying88 hi hz0 hz1 hz2 (.slice va (headP acts j).length vc) rfl (headP acts j) (HRow.out.below (HAl.out 10)) (by simp; omega) (.slice (some ⟨wr.heap.size, 0, none⟩) 1 1) rfl [10] (one_byte wr 10 _) (by have := HL.out; simp; omega) ?_); intro v1 wA hA1 hgA; refine Hid.out ?_)
      refine Lib.hid ?_
      have HBA := Lib.hid (((HB.out.trans ((HAl.out 10).mono hz)).grown hgA (by simp; omega) HRow.out.ge))
      rw [HE.out] at hA1
      have HA1 := Lib.hid hA1
      clear hA1 hgA
      go_wp2
      go_ret
      exact ⟨_, rfl, HA1.out, HBA.out⟩
end Go.Proofs.YtlnncklanabbdaaGreatDoor
