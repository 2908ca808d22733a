/- offered; checkState; system.Offer. -/
import Derived.Test.YtlnncklanabbdaaGreatDoorSParse
namespace Go.Proofs.YtlnncklanabbdaaGreatDoor
open Go.RowKit Pl

def offN (l : List Edg) : Nat := l.foldl (fun s e => s ||| 2 ^ e.1.toNat) 0
theorem offN_take {l : List Edg} {j : Nat} (h : j < l.length) : offN (l.take (j + 1)) = offN (l.take j) ||| 2 ^ (edAt l j).1.toNat := by
  have e : edAt l j = l[j] := by simp [edAt, List.getD, h]
  unfold offN
  rw [List.take_succ_eq_append_getElem h, List.foldl_append, e]
  rfl
theorem offN_lt {l : List Edg} (h : ∀ k, k < l.length → 0 ≤ (edAt l k).1 ∧ (edAt l k).1 < 8) : ∀ j, j ≤ l.length → offN (l.take j) < 256
  | 0, _ => by simp [offN]
  | j + 1, hj => by
    rw [offN_take (by omega)]
    have h1 := h j (by omega)
    exact Nat.or_lt_two_pow (n := 8) (offN_lt h j (by omega)) (Nat.pow_lt_pow_right (by decide) (by omega))

theorem offered_any {w : World} {a : Option Addr} {n c : Nat} {l : List Edg} (A : EdgeArg w a n c l) (h8 : ∀ k, k < l.length → 0 ≤ (edAt l k).1 ∧ (edAt l k).1 < 8) :
    Calls Tryz.prog 68 #[.slice a n c] w fun e w' => e = .returned (.int .i64 (offN l)) ∧ Below w.heap.size w w' := by
  have HA := Lib.hid A
  have hn : n ≤ 140737488355328 := A.big
  have H8 := Lib.hid h8
  clear A h8
  go_enter Tryz.func68, Tryz.ntmps68
  go_wp2
  go_loopw [3, 5, 8] (fun s _ i wr => ∃ j t : Nat, j ≤ n ∧ i = .int .i64 j ∧ s = .int .i64 t ∧ t < 256 ∧ Hid (t = offN (l.take j)) ∧ Below w.heap.size w wr) (fun _ _ i _ => n - (intOf i).toNat)
  case atStart => exact ⟨0, 0, Nat.zero_le _, rfl, rfl, by decide, Lib.hid rfl, Below.refl _ _⟩
  case round =>
    obtain ⟨j, t, hj, rfl, rfl, ht, htb, hb⟩ := hrel
    by_cases hlt : j < n
    · obtain ⟨b, off, rfl, c0, c1⟩ := (HA.out.cells.below hb) j (by have := HA.out.len; omega)
      obtain ⟨h1, h2⟩ := H8.out j (by have := HA.out.len; omega)
      obtain ⟨m, hm⟩ := Int.eq_ofNat_of_zero_le h1
      obtain ⟨x2, hx2⟩ : ∃ x2, x2 = (edAt l j).2 := ⟨_, rfl⟩
      rw [← hx2] at c1
      rw [hm] at c0 h2
      obtain ⟨R, HR⟩ : ∃ R : Nat, Hid (R = t ||| 2 ^ m) := ⟨_, Lib.hid rfl⟩
      have hR : R < 256 := by rw [HR.out]; exact Nat.or_lt_two_pow (n := 8) ht (Nat.pow_lt_pow_right (by decide) (by omega))
      have HT : Hid (R = offN (l.take (j + 1))) := Lib.hid (by rw [offN_take (by have := HA.out.len; omega), hm, ← htb.out, HR.out]; rfl)
      have HO : Hid (bits .or .i64 (t : Int) (wrap64 (2 ^ m)) = (R : Int)) := Lib.hid (by
        have h2 := pow_le m (by omega)
        have h3 : ((2 ^ m : Nat) : Int) = (2 : Int) ^ m := by norm_cast
        have h4 : 2 ^ m < 256 := Nat.pow_lt_pow_right (n := 8) (by decide) (by omega)
        rw [IntWalk.wrap64_in _ ⟨by omega, by omega⟩, ← h3, HR.out]
        exact i64_or_nat t _ (by omega) (by omega))
      have HB := Lib.hid (hb.alloc hb.size (.cells #[.int .i64 m, .int .i64 x2] 81))
      clear hb h1 hm hx2
      go_wp2
      rw [HO.out]
      go_wp2
      go_roundw
      case rel => exact ⟨j + 1, R, by omega, by go_num, rfl, hR, HT, HB.out⟩
      case measure => simp [intOf]; omega
    · have HT : Hid (t = offN l) := Lib.hid (by
        have := htb.out
        rw [List.take_of_length_le (by have := HA.out.len; omega)] at this
        exact this)
      have HB := Lib.hid hb
      clear hb
      go_wp2
      go_ret
      exact ⟨by rw [HT.out]; rfl, HB.out⟩

/-- the error for a system and a state -/
def stC (m : Syst) (x : Int) : Int := if sysB m = true then (if 0 ≤ x ∧ x < m.states.length then 0 else 1) else 20
set_option maxRecDepth 100000 in
set_option maxHeartbeats 8000000 in
theorem checkState_any {w : World} {a : Option Addr} {n c : Nat} {b : Option Addr} {k d : Nat} {m : Syst} (x : Int) (hx : -9223372036854775808 ≤ x) (hx' : x ≤ 9223372036854775807) {e0 e1 e2 : Addr} (E : Errs w e0 e1 e2) (A : SysArg w a n c b k d m) :
    Calls Tryz.prog 67 #[.agg #[.slice a n c, .slice b k d], .int .i64 x] w fun e w' => e = .returned (.int .i64 (stC m x)) ∧ Below w.heap.size w w' := by
  have hB := (Below.refl w.heap.size w).alloc (Nat.le_refl _) (.cells #[.slice a n c, .slice b k d] 25)
  have hA := A.below hB
  have HC := Lib.hid (SCheck_any (E.below hB) hA)
  have HK := Lib.hid A.len
  have hk2 : k ≤ 140737488355328 := by have := A.cap; have := A.big; omega
  have HBB := Lib.hid hB
  have o2 : (w.alloc (.cells #[.slice a n c, .slice b k d] 25)).cell? ⟨w.heap.size, 1, none⟩ = some (.slice b k d) := (Whole.new w 25 #[.slice a n c, .slice b k d]).cell 1
  clear hB hA A E
  go_enter Tryz.func67, Tryz.ntmps67
  go_wp2_with fail
  refine HC.out.mono ?_
  rintro e w2 ⟨rfl, hb⟩
  have HB := Lib.hid (HBB.out.trans (hb.mono HBB.out.size))
  have o2C := up_cell hb o2
  clear hb
  by_cases hs : sysB m = true
  · rw [chk_yes hs]
    have HS := Lib.hid hs
    clear hs
    by_cases h0 : x < 0
    · have HV : Hid (stC m x = 1) := Lib.hid (by unfold stC; rw [if_pos HS.out, if_neg (by have := HK.out; omega)])
      go_wp2
      go_ret
      exact ⟨by rw [HV.out]; rfl, HB.out⟩
    · by_cases h1 : x < k
      · have HV : Hid (stC m x = 0) := Lib.hid (by unfold stC; rw [if_pos HS.out, if_pos (by have := HK.out; omega)])
        go_wp2
        go_ret
        exact ⟨by rw [HV.out]; rfl, HB.out⟩
      · have HV : Hid (stC m x = 1) := Lib.hid (by unfold stC; rw [if_pos HS.out, if_neg (by have := HK.out; omega)])
        go_wp2
        go_ret
        exact ⟨by rw [HV.out]; rfl, HB.out⟩
  · have HV : Hid (stC m x = 20) := Lib.hid (if_neg hs)
    rw [chk_no (by simpa using hs)]
    go_wp2
    go_ret
    exact ⟨by rw [HV.out]; rfl, HB.out⟩

def offerV (m : Syst) (x : Int) : Int := if stC m x = 0 then (offN (stAt m.states x.toNat) : Int) else 0
set_option maxRecDepth 100000 in
set_option maxHeartbeats 8000000 in
theorem Offer_any {w : World} {a : Option Addr} {n c : Nat} {b : Option Addr} {k d : Nat} {m : Syst} (x : Int) (hx : -9223372036854775808 ≤ x) (hx' : x ≤ 9223372036854775807) {e0 e1 e2 : Addr} (E : Errs w e0 e1 e2) (A : SysArg w a n c b k d m) :
    Calls Tryz.prog 27 #[.agg #[.slice a n c, .slice b k d], .int .i64 x] w fun e w' => e = .returned (.tuple #[.int .i64 (offerV m x), .int .i64 (stC m x)]) ∧ Below w.heap.size w w' := by
  have hB := (Below.refl w.heap.size w).alloc (Nat.le_refl _) (.cells #[.slice a n c, .slice b k d] 25)
  have hA := A.below hB
  have HA := Lib.hid hA
  have HC := Lib.hid (checkState_any x hx hx' (E.below hB) hA)
  have HK := Lib.hid A.len
  have hk2 : k ≤ 140737488355328 := by have := A.cap; have := A.big; omega
  have HBB := Lib.hid hB
  have o2 : (w.alloc (.cells #[.slice a n c, .slice b k d] 25)).cell? ⟨w.heap.size, 1, none⟩ = some (.slice b k d) := (Whole.new w 25 #[.slice a n c, .slice b k d]).cell 1
  clear hB hA A E
  go_enter Tryz.func27, Tryz.ntmps27
  go_wp2_with fail
  refine HC.out.mono ?_
  rintro e w2 ⟨rfl, hb⟩
  have HB := Lib.hid (HBB.out.trans (hb.mono HBB.out.size))
  have o2C := up_cell hb o2
  have HA2 := Lib.hid (HA.out.below hb)
  clear hb
  by_cases hs : stC m x = 0
  · have hx : sysB m = true ∧ 0 ≤ x ∧ x < m.states.length := by
      unfold stC at hs
      split at hs
      · rename_i h
        split at hs
        · exact ⟨h, by assumption⟩
        · cases hs
      · cases hs
    obtain ⟨h1, h2, h3⟩ := hx
    obtain ⟨j, rfl⟩ := Int.eq_ofNat_of_zero_le h2
    have hj : j < k := by have := HK.out; omega
    obtain ⟨bb, off, rfl, ai, ni, ci, c1, hE⟩ := HA2.out.rows j (by omega)
    obtain ⟨h4, h5, h6, h7, h8⟩ := (sysB_iff m).1 h1
    have hac8 := ((actsB_iff m.acts).1 h4).1
    have HO := Lib.hid (offered_any hE (fun q hq => by
      have := (edgesB_iff _ _ _).1 (h7 j (by omega)) q hq
      have := (okE_iff _ _ _).1 (by unfold edgeB at this; rw [Bool.and_eq_true] at this; exact this.1)
      omega))
    have HV : Hid (offerV m j = offN (stAt m.states j)) := Lib.hid (if_pos hs)
    have HSV := Lib.hid hs
    rw [hs]
    clear hs h1 h2 h3 hE h4 h5 h6 h7 h8 hac8
    go_wp2_with fail
    refine HO.out.mono ?_
    rintro e w3 ⟨rfl, hb⟩
    have HB3 := Lib.hid (HB.out.trans (hb.mono HB.out.size))
    clear hb
    go_wp2
    exact bodyPost_ret (v := .tuple #[.int .i64 (offN (stAt m.states j)), .int .i64 0]) (by simp [results, Tryz.results27, go_sem]) rfl ⟨by rw [HV.out, HSV.out], HB3.out⟩
  · have HV : Hid (offerV m x = 0) := Lib.hid (if_neg hs)
    obtain ⟨cd, hcd⟩ : ∃ cd, stC m x = cd := ⟨_, rfl⟩
    rw [hcd] at hs ⊢
    go_wp2
    exact bodyPost_ret (v := .tuple #[.int .i64 0, .int .i64 cd]) (by simp [results, Tryz.results27, go_sem]) rfl ⟨by rw [HV.out, hcd], HB.out⟩
end Go.Proofs.YtlnncklanabbdaaGreatDoor
