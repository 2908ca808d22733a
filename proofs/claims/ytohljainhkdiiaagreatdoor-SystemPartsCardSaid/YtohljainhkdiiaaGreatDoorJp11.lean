/- Texts joined: Offer, Is2, Line. -/
import Derived.Test.YtohljainhkdiiaaGreatDoorJp10
import Derived.Test.YtohljainhkdiiaaGreatDoorJp03
import Derived.Test.YtohljainhkdiiaaGreatDoorJp08
import Derived.Deep.RegionHeld3
/- offered; checkState; system.Offer. -/
namespace Go.Proofs.YtohljainhkdiiaaGreatDoor
open Go.RowKit Pl

def offN (l : List Edg) : Nat := l.foldl (fun s e => s ||| 2 ^ e.1.toNat) 0
theorem offN_take {l : List Edg} {j : Nat} (h : j < l.length) : offN (l.take (j + 1)) = offN (l.take j) ||| 2 ^ (edAt l j).1.toNat := by
  have e : edAt l j = l[j] := by simp [edAt, List.getD, h]
  unfold offN
  rw [List.take_succ_eq_append_getElem h, List.foldl_append, e]
  rfl
theorem offN_lt {l : List Edg} (h : ∀ k, k < l.length → 0 ≤ (edAt l k).1 ∧ (edAt l k).1 < 8) : ∀ j, j ≤ l.length → offN (l.take j) < 256
  | 0, _ => by simp [offN]
  | j + 1, hj => by
    rw [offN_take (by omega)]
    have h1 := h j (by omega)
    exact Nat.or_lt_two_pow (n := 8) (offN_lt h j (by omega)) (Nat.pow_lt_pow_right (by decide) (by omega))

theorem offered_any {w : World} {a : Option Addr} {n c : Nat} {l : List Edg} (A : EdgeArg w a n c l) (h8 : ∀ k, k < l.length → 0 ≤ (edAt l k).1 ∧ (edAt l k).1 < 8) :
    Calls Tryz.prog 69 #[.slice a n c] w fun e w' => e = .returned (.int .i64 (offN l)) ∧ Below w.heap.size w w' := by
  have HA := Lib.hid A
  have hn : n ≤ 140737488355328 := A.big
  have H8 := Lib.hid h8
  clear A h8
  go_enter Tryz.func69, Tryz.ntmps69
  go_wp2
  go_loopw [3, 5, 8] (fun s _ i wr => ∃ j t : Nat, j ≤ n ∧ i = .int .i64 j ∧ s = .int .i64 t ∧ t < 256 ∧ Hid (t = offN (l.take j)) ∧ Below w.heap.size w wr) (fun _ _ i _ => n - (intOf i).toNat)
  case atStart => exact ⟨0, 0, Nat.zero_le _, rfl, rfl, by decide, Lib.hid rfl, Below.refl _ _⟩
  case round =>
    obtain ⟨j, t, hj, rfl, rfl, ht, htb, hb⟩ := hrel
    by_cases hlt : j < n
    · obtain ⟨b, off, rfl, c0, c1⟩ := (HA.out.cells.below hb) j (by have := HA.out.len; omega)
      obtain ⟨h1, h2⟩ := H8.out j (by have := HA.out.len; omega)
      obtain ⟨m, hm⟩ := Int.eq_ofNat_of_zero_le h1
      obtain ⟨x2, hx2⟩ : ∃ x2, x2 = (edAt l j).2 := ⟨_, rfl⟩
      rw [← hx2] at c1
      rw [hm] at c0 h2
      obtain ⟨R, HR⟩ : ∃ R : Nat, Hid (R = t ||| 2 ^ m) := ⟨_, Lib.hid rfl⟩
      have hR : R < 256 := by rw [HR.out]; exact Nat.or_lt_two_pow (n := 8) ht (Nat.pow_lt_pow_right (by decide) (by omega))
      have HT : Hid (R = offN (l.take (j + 1))) := Lib.hid (by rw [offN_take (by have := HA.out.len; omega), hm, ← htb.out, HR.out]; rfl)
      have HO : Hid (bits .or .i64 (t : Int) (wrap64 (2 ^ m)) = (R : Int)) := Lib.hid (by
        have h2 := pow_le m (by omega)
        have h3 : ((2 ^ m : Nat) : Int) = (2 : Int) ^ m := by norm_cast
        have h4 : 2 ^ m < 256 := Nat.pow_lt_pow_right (n := 8) (by decide) (by omega)
        rw [IntWalk.wrap64_in _ ⟨by omega, by omega⟩, ← h3, HR.out]
        exact i64_or_nat t _ (by omega) (by omega))
      have HB := Lib.hid (hb.alloc hb.size (.cells #[.int .i64 m, .int .i64 x2] 71))
      clear hb h1 hm hx2
      go_wp2
      rw [HO.out]
      go_wp2
      go_roundw
      case rel => exact ⟨j + 1, R, by omega, by go_num, rfl, hR, HT, HB.out⟩
      case measure => simp [intOf]; omega
    · have HT : Hid (t = offN l) := Lib.hid (by
        have := htb.out
        rw [List.take_of_length_le (by have := HA.out.len; omega)] at this
        exact this)
      have HB := Lib.hid hb
      clear hb
      go_wp2
      go_ret
      exact ⟨by rw [HT.out]; rfl, HB.out⟩

/-- the error for a system and a state -/
def stC (m : Syst) (x : Int) : Int := if sysB m = true then (if 0 ≤ x ∧ x < m.states.length then 0 else 1) else 20
set_option maxRecDepth 100000 in
set_option maxHeartbeats 8000000 in
theorem checkState_any {w : World} {a : Option Addr} {n c : Nat} {b : Option Addr} {k d : Nat} {m : Syst} (x : Int) (hx : -9223372036854775808 ≤ x) (hx' : x ≤ 9223372036854775807) {e0 e1 e2 : Addr} (E : Errs w e0 e1 e2) (A : SysArg w a n c b k d m) :
    Calls Tryz.prog 35 #[.agg #[.slice a n c, .slice b k d], .int .i64 x] w fun e w' => e = .returned (.int .i64 (stC m x)) ∧ Below w.heap.size w w' := by
  have hB := (Below.refl w.heap.size w).alloc (Nat.le_refl _) (.cells #[.slice a n c, .slice b k d] 25)
  have hA := A.below hB
  have HC := Lib.hid (SCheck_any (E.below hB) hA)
  have HK := Lib.hid A.len
  have hk2 : k ≤ 140737488355328 := by have := A.cap; have := A.big; omega
  have HBB := Lib.hid hB
  have o2 : (w.alloc (.cells #[.slice a n c, .slice b k d] 25)).cell? ⟨w.heap.size, 1, none⟩ = some (.slice b k d) := (Whole.new w 25 #[.slice a n c, .slice b k d]).cell 1
  clear hB hA A E
  go_enter Tryz.func35, Tryz.ntmps35
  go_wp2_with fail
  refine HC.out.mono ?_
  rintro e w2 ⟨rfl, hb⟩
  have HB := Lib.hid (HBB.out.trans (hb.mono HBB.out.size))
  have o2C := up_cell hb o2
  clear hb
  by_cases hs : sysB m = true
  · rw [chk_yes hs]
    have HS := Lib.hid hs
    clear hs
    by_cases h0 : x < 0
    · have HV : Hid (stC m x = 1) := Lib.hid (by unfold stC; rw [if_pos HS.out, if_neg (by have := HK.out; omega)])
      go_wp2
      go_ret
      exact ⟨by rw [HV.out]; rfl, HB.out⟩
    · by_cases h1 : x < k
      · have HV : Hid (stC m x = 0) := Lib.hid (by unfold stC; rw [if_pos HS.out, if_pos (by have := HK.out; omega)])
        go_wp2
        go_ret
        exact ⟨by rw [HV.out]; rfl, HB.out⟩
      · have HV : Hid (stC m x = 1) := Lib.hid (by unfold stC; rw [if_pos HS.out, if_neg (by have := HK.out; omega)])
        go_wp2
        go_ret
        exact ⟨by rw [HV.out]; rfl, HB.out⟩
  · have HV : Hid (stC m x = 20) := Lib.hid (if_neg hs)
    rw [chk_no (by simpa using hs)]
    go_wp2
    go_ret
    exact ⟨by rw [HV.out]; rfl, HB.out⟩

def offerV (m : Syst) (x : Int) : Int := if stC m x = 0 then (offN (stAt m.states x.toNat) : Int) else 0
set_option maxRecDepth 100000 in
set_option maxHeartbeats 8000000 in
theorem Offer_any {w : World} {a : Option Addr} {n c : Nat} {b : Option Addr} {k d : Nat} {m : Syst} (x : Int) (hx : -9223372036854775808 ≤ x) (hx' : x ≤ 9223372036854775807) {e0 e1 e2 : Addr} (E : Errs w e0 e1 e2) (A : SysArg w a n c b k d m) :
    Calls Tryz.prog 29 #[.agg #[.slice a n c, .slice b k d], .int .i64 x] w fun e w' => e = .returned (.tuple #[.int .i64 (offerV m x), .int .i64 (stC m x)]) ∧ Below w.heap.size w w' := by
  have hB := (Below.refl w.heap.size w).alloc (Nat.le_refl _) (.cells #[.slice a n c, .slice b k d] 25)
  have hA := A.below hB
  have HA := Lib.hid hA
  have HC := Lib.hid (checkState_any x hx hx' (E.below hB) hA)
  have HK := Lib.hid A.len
  have hk2 : k ≤ 140737488355328 := by have := A.cap; have := A.big; omega
  have HBB := Lib.hid hB
  have o2 : (w.alloc (.cells #[.slice a n c, .slice b k d] 25)).cell? ⟨w.heap.size, 1, none⟩ = some (.slice b k d) := (Whole.new w 25 #[.slice a n c, .slice b k d]).cell 1
  clear hB hA A E
  go_enter Tryz.func29, Tryz.ntmps29
  go_wp2_with fail
  refine HC.out.mono ?_
  rintro e w2 ⟨rfl, hb⟩
  have HB := Lib.hid (HBB.out.trans (hb.mono HBB.out.size))
  have o2C := up_cell hb o2
  have HA2 := Lib.hid (HA.out.below hb)
  clear hb
  by_cases hs : stC m x = 0
  · have hx : sysB m = true ∧ 0 ≤ x ∧ x < m.states.length := by
      unfold stC at hs
      split at hs
      · rename_i h
        split at hs
        · exact ⟨h, by assumption⟩
        · cases hs
      · cases hs
    obtain ⟨h1, h2, h3⟩ := hx
    obtain ⟨j, rfl⟩ := Int.eq_ofNat_of_zero_le h2
    have hj : j < k := by have := HK.out; omega
    obtain ⟨bb, off, rfl, ai, ni, ci, c1, hE⟩ := HA2.out.rows j (by omega)
    obtain ⟨h4, h5, h6, h7, h8⟩ := (sysB_iff m).1 h1
    have hac8 := ((actsB_iff m.acts).1 h4).1
    have HO := Lib.hid (offered_any hE (fun q hq => by
      have := (edgesB_iff _ _ _).1 (h7 j (by omega)) q hq
      have := (okE_iff _ _ _).1 (by unfold edgeB at this; rw [Bool.and_eq_true] at this; exact this.1)
      omega))
    have HV : Hid (offerV m j = offN (stAt m.states j)) := Lib.hid (if_pos hs)
    have HSV := Lib.hid hs
    rw [hs]
    clear hs h1 h2 h3 hE h4 h5 h6 h7 h8 hac8
    go_wp2_with fail
    refine HO.out.mono ?_
    rintro e w3 ⟨rfl, hb⟩
    have HB3 := Lib.hid (HB.out.trans (hb.mono HB.out.size))
    clear hb
    go_wp2
    exact bodyPost_ret (v := .tuple #[.int .i64 (offN (stAt m.states j)), .int .i64 0]) (by simp [results, Tryz.results29, go_sem]) rfl ⟨by rw [HV.out, HSV.out], HB3.out⟩
  · have HV : Hid (offerV m x = 0) := Lib.hid (if_neg hs)
    obtain ⟨cd, hcd⟩ : ∃ cd, stC m x = cd := ⟨_, rfl⟩
    rw [hcd] at hs ⊢
    go_wp2
    exact bodyPost_ret (v := .tuple #[.int .i64 0, .int .i64 cd]) (by simp [results, Tryz.results29, go_sem]) rfl ⟨by rw [HV.out, hcd], HB.out⟩
end Go.Proofs.YtohljainhkdiiaaGreatDoor
/- The reference's Is of systems. -/
namespace Go.Proofs.YtohljainhkdiiaaGreatDoor
open Go.RowKit Pl

set_option maxHeartbeats 2000000 in
theorem RIs_any {w : World} {a : Option Addr} {n c : Nat} {b : Option Addr} {k d : Nat} {m : Syst} (A : SysArg w a n c b k d m) (ht : total m.states ≤ 4611686018427387904) :
    Calls Tryz.prog 8 #[.agg #[.slice a n c, .slice b k d]] w fun e w' => e = .returned (.bool (sysB m)) ∧ Below w.heap.size w w' := by
  have hB := (Below.refl w.heap.size w).alloc (Nat.le_refl _) (.cells #[.slice a n c, .slice b k d] 25)
  have HC := Lib.hid (Is_arg (A.acts.below hB))
  have HA := Lib.hid A
  have HTT := Lib.hid ht
  have h1 : n ≤ 140737488355328 := A.abig
  have h2 : k ≤ 140737488355328 := by have := A.cap; have := A.big; omega
  have HR := Lib.hid (A.rows.below hB)
  have HBB := Lib.hid hB
  clear A hB ht
  cases ha : actsB m.acts
  · have HB := Lib.hid (sysB_acts ha)
    rw [ha] at HC
    clear ha
    go_enter Tryz.func8, Tryz.ntmps8
    go_wp2_with fail
    refine HC.out.mono ?_
    rintro e w' ⟨rfl, rfl⟩
    go_wp2
    go_ret
    exact ⟨by rw [HB.out]; rfl, HBB.out⟩
  · rw [ha] at HC
    have HAC := Lib.hid ha
    clear ha
    by_cases hk : 1 ≤ k ∧ k ≤ 5000
    · obtain ⟨hk1, hk2⟩ := hk
      go_enter Tryz.func8, Tryz.ntmps8
      go_wp2_with fail
      refine HC.out.mono ?_
      rintro e w' ⟨rfl, rfl⟩
      go_wp2
      go_loopw [3, 5, 6, 7, 27] (fun s _ _ _ i wr => ∃ j t : Nat, j ≤ k ∧ i = .int .i64 j ∧ s = .int .i64 t ∧ Hid (t = total (m.states.take j) ∧ ∀ x, x < j → edgesB m.acts.length m.states.length (stAt m.states x) = true) ∧ t ≤ 4611686018427387904 ∧ Below (w.heap.size + 1) (w.alloc (.cells #[.slice a n c, .slice b k d] 25)) wr) (fun _ _ _ _ i _ => k - (intOf i).toNat)
      case atStart => exact ⟨0, 0, Nat.zero_le _, rfl, rfl, Lib.hid ⟨by simp [total], fun x hx => by omega⟩, by omega, Below.refl _ _⟩
      case round =>
        obtain ⟨w0, hw0⟩ : ∃ z, z = wr := ⟨_, rfl⟩
        subst hw0
        obtain ⟨j, t, hj, rfl, rfl, ht, htb, hb⟩ := hrel
        have hb' : Below (w.alloc (.cells #[.slice a n c, .slice b k d] 25)).heap.size (w.alloc (.cells #[.slice a n c, .slice b k d] 25)) w0 := hb.mono (by simp)
        by_cases hlt : j < k
        · obtain ⟨bb, off, rfl, ai, ni, ci, c1, hE⟩ := (HR.out.below hb') j (by have := HA.out.len; omega)
          have h3 : ni ≤ 140737488355328 := by have := hE.cap; have := hE.big; omega
          have HE := Lib.hid hE
          have HT : Hid (t + ni = total (m.states.take (j + 1))) := Lib.hid (by
            have := ht.out.1; have := total_take m.states j (by have := HA.out.len; omega); have := hE.len; omega)
          have h4 : t + ni ≤ 4611686018427387904 := by have := HT.out; have := total_take_le m.states (j + 1); have := HTT.out; omega
          have c2 : w0.cell? ⟨w.heap.size, 0, none⟩ = some (.slice a n c) := by rw [hb'.cell (by simp)]; simp
          have c3 : w0.cell? ⟨w.heap.size, 1, none⟩ = some (.slice (some ⟨bb, off, none⟩) k d) := by rw [hb'.cell (by simp)]; simp
          clear hE
          go_wp2
          go_loopw [6, 7, 37] (fun _ _ i wr => ∃ x : Nat, x ≤ ni ∧ i = .int .i64 x ∧ Hid (∀ y, y < x → edgeB n k (stAt m.states j) y = true) ∧ Below w0.heap.size w0 wr) (fun _ _ i _ => ni - (intOf i).toNat)
          case atStart => exact ⟨0, Nat.zero_le _, rfl, Lib.hid fun y hy => by omega, Below.refl _ _⟩
          case round =>
            obtain ⟨x, hx, rfl, hgood, hb1⟩ := hrel
            by_cases hxl : x < ni
            · obtain ⟨be, oe, rfl, d1, d2⟩ := (HE.out.cells.below hb1) x (by have := HE.out.len; omega)
              obtain ⟨X, HX⟩ : ∃ z, Hid ((edAt (stAt m.states j) x).1 = z) := ⟨_, Lib.hid rfl⟩
              obtain ⟨Y, HY⟩ : ∃ z, Hid ((edAt (stAt m.states j) x).2 = z) := ⟨_, Lib.hid rfl⟩
              rw [HX.out] at d1
              rw [HY.out] at d2
              have k2 : wr.cell? ⟨w.heap.size, 0, none⟩ = some (.slice a n c) := (hb1.cell (lt_of_cell c2)).trans c2
              have k3 : wr.cell? ⟨w.heap.size, 1, none⟩ = some (.slice (some ⟨bb, off, none⟩) k d) := (hb1.cell (lt_of_cell c3)).trans c3
              have K2 := cell_new k2
              have K3 := cell_new k3
              have e1 : edAt (stAt m.states j) x = (X, Y) := by rw [← HX.out, ← HY.out]
              have HE1 := Lib.hid e1
              clear e1
              have hbw : Below w.heap.size w wr := (HBB.out.trans (hb'.mono HBB.out.size)).trans (hb1.mono (Nat.le_trans HBB.out.size hb'.size))
              have hb0 := hb1.alloc hb1.size (.cells #[.int .i64 X, .int .i64 Y] 71)
              have hbz := (hbw.alloc hbw.size (.cells #[.int .i64 X, .int .i64 Y] 71))
              by_cases hok : okE n k (X, Y) = true
              · have h4' := (okE_iff _ _ _).1 hok
                simp only at h4'
                obtain ⟨o1, o2, o3, o4⟩ := h4'
                have g1 : decide (X < 0) = false := decide_eq_false (by omega)
                have g2 : decide ((n : Int) ≤ X) = false := decide_eq_false (by omega)
                have g3 : decide (Y < 0) = false := decide_eq_false (by omega)
                have g4 : decide ((k : Int) ≤ Y) = false := decide_eq_false (by omega)
                have HO := Lib.hid hok
                clear hok
                by_cases h0 : 0 < x
                · obtain ⟨z, rfl⟩ : ∃ z, x = z + 1 := ⟨x - 1, by omega⟩
                  obtain ⟨be', oe', e, f1, f2⟩ := (HE.out.cells.below hb1) z (by have := HE.out.len; omega)
                  cases e
                  obtain ⟨PX, HPX⟩ : ∃ q, Hid ((edAt (stAt m.states j) z).1 = q) := ⟨_, Lib.hid rfl⟩
                  obtain ⟨PY, HPY⟩ : ∃ q, Hid ((edAt (stAt m.states j) z).2 = q) := ⟨_, Lib.hid rfl⟩
                  rw [HPX.out] at f1
                  rw [HPY.out] at f2
                  have HE2 : Hid (edAt (stAt m.states j) (z + 1 - 1) = (PX, PY)) := Lib.hid (by rw [← HPX.out, ← HPY.out]; rfl)
                  have hg : decide ((0 : Int) < (z + 1 : Nat)) = true := decide_eq_true (by omega)
                  have hk1 : IntKind.i64.wrap (z : Int) = (z : Int) := IntWalk.i64_in _ (by omega)
                  have hk2 : (0 : Int) ≤ (z : Int) := by omega
                  have hk4 : (z : Int) < ni := by omega
                  obtain ⟨q, HQ⟩ : ∃ q, Hid (ltE (PX, PY) (X, Y) = q) := ⟨_, Lib.hid rfl⟩
                  cases q
                  · have HB := Lib.hid (sysB_edges (m := m) j (by have := HA.out.len; omega) (by
                      rw [← HA.out.len, ← HA.out.acts.len]
                      exact edgesB_bad (k := z + 1) (by have := HE.out.len; omega) (edgeB_back h0 (by rw [HE1.out, HE2.out]; exact HQ.out))))
                    go_wp2
                    go_region_held3 (fun w' => w'.cell? ⟨wr.heap.size, 0, none⟩ = some (.int .i64 X) ∧ w'.cell? ⟨wr.heap.size, 1, none⟩ = some (.int .i64 Y) ∧ w'.cell? ⟨w.heap.size, 0, none⟩ = some (.slice a n c) ∧ w'.cell? ⟨w.heap.size, 1, none⟩ = some (.slice (some ⟨bb, off, none⟩) k d) ∧ w'.cell? ⟨be, oe + z * 2, none⟩ = some (.int .i64 PX) ∧ w'.cell? ⟨be, oe + z * 2 + 1, none⟩ = some (.int .i64 PY)) (simp (maxDischargeDepth := 12) [*, World.cell?_alloc_some])
                      (first | (go_at_call 32; refine (before_at _ _ _ _ _).mono ?_; rw [HQ.out]; rintro e w' ⟨rfl, rfl⟩))
                    go_wp2
                    go_ret
                    exact ⟨by rw [HB.out]; rfl, (((hbw.alloc hbw.size _).alloc (by have := hbw.size; simp; omega) _).alloc (by have := hbw.size; simp; omega) _).drew⟩
                  · have HG : Hid (∀ y, y < z + 1 + 1 → edgeB n k (stAt m.states j) y = true) := Lib.hid fun y hy => by
                      by_cases e : y = z + 1
                      · rw [e]
                        exact edgeB_next (by rw [HE1.out]; exact HO.out) (by rw [HE1.out, HE2.out]; exact HQ.out)
                      · exact hgood.out y (by omega)
                    go_wp2
                    go_region_held3 (fun w' => w'.cell? ⟨wr.heap.size, 0, none⟩ = some (.int .i64 X) ∧ w'.cell? ⟨wr.heap.size, 1, none⟩ = some (.int .i64 Y) ∧ w'.cell? ⟨w.heap.size, 0, none⟩ = some (.slice a n c) ∧ w'.cell? ⟨w.heap.size, 1, none⟩ = some (.slice (some ⟨bb, off, none⟩) k d) ∧ w'.cell? ⟨be, oe + z * 2, none⟩ = some (.int .i64 PX) ∧ w'.cell? ⟨be, oe + z * 2 + 1, none⟩ = some (.int .i64 PY)) (simp (maxDischargeDepth := 12) [*, World.cell?_alloc_some])
                      (first | (go_at_call 32; refine (before_at _ _ _ _ _).mono ?_; rw [HQ.out]; rintro e w' ⟨rfl, rfl⟩))
                    go_wp2
                    go_roundw
                    case rel => exact ⟨z + 1 + 1, by omega, by go_num, HG, (((hb1.alloc hb1.size _).alloc (by have := hb1.size; simp; omega) _).alloc (by have := hb1.size; simp; omega) _).drew⟩
                    case measure => simp [intOf]; omega
                · have hg : decide ((0 : Int) < x) = false := decide_eq_false (by omega)
                  obtain rfl : x = 0 := by omega
                  simp only [Nat.zero_mul, Nat.add_zero] at d1 d2
                  have HG : Hid (∀ y, y < 0 + 1 → edgeB n k (stAt m.states j) y = true) := Lib.hid fun y hy => by
                    obtain rfl : y = 0 := by omega
                    exact edgeB_zero (by rw [HE1.out]; exact HO.out)
                  go_wp2
                  go_quiet (fail)
                  go_wp2
                  go_roundw
                  case rel => exact ⟨0 + 1, by omega, by go_num, HG, below_drewN (hb1.alloc hb1.size _) _⟩
                  case measure => simp [intOf]; omega
              · have HB := Lib.hid (sysB_edges (m := m) j (by have := HA.out.len; omega) (by
                  rw [← HA.out.len, ← HA.out.acts.len]
                  exact edgesB_bad (k := x) (by have := HE.out.len; omega) (edgeB_out (by rw [HE1.out]; rw [Bool.eq_false_iff]; exact hok))))
                have HOK := Lib.hid hok
                clear hok
                by_cases q1 : X < 0
                · have g1 : decide (X < 0) = true := decide_eq_true q1
                  go_wp2
                  go_quiet (fail)
                  go_wp2
                  go_ret
                  exact ⟨by rw [HB.out]; rfl, below_drewN hbz _⟩
                · have g1 : decide (X < 0) = false := decide_eq_false q1
                  by_cases q2 : (n : Int) ≤ X
                  · have g2 : decide ((n : Int) ≤ X) = true := decide_eq_true q2
                    go_wp2
                    go_quiet (fail)
                    go_wp2
                    go_ret
                    exact ⟨by rw [HB.out]; rfl, below_drewN hbz _⟩
                  · have g2 : decide ((n : Int) ≤ X) = false := decide_eq_false q2
                    by_cases q3 : Y < 0
                    · have g3 : decide (Y < 0) = true := decide_eq_true q3
                      go_wp2
                      go_quiet (fail)
                      go_wp2
                      go_ret
                      exact ⟨by rw [HB.out]; rfl, below_drewN hbz _⟩
                    · have g3 : decide (Y < 0) = false := decide_eq_false q3
                      have q4 : (k : Int) ≤ Y := by have h := HOK.out; rw [okE_iff] at h; simp only at h; omega
                      have g4 : decide ((k : Int) ≤ Y) = true := decide_eq_true q4
                      go_wp2
                      go_quiet (fail)
                      go_wp2
                      go_ret
                      exact ⟨by rw [HB.out]; rfl, below_drewN hbz _⟩
            · have HG : Hid (t + ni = total (m.states.take (j + 1)) ∧ ∀ x, x < j + 1 → edgesB m.acts.length m.states.length (stAt m.states x) = true) := Lib.hid ⟨HT.out, fun y hy => by
                by_cases e : y = j
                · rw [e, ← HA.out.len, ← HA.out.acts.len]; exact edgesB_good fun z hz => hgood.out z (by have := HE.out.len; omega)
                · exact ht.out.2 y (by omega)⟩
              go_wp2
              go_roundw
              case rel => exact ⟨j + 1, t + ni, by omega, by go_num, by go_num, HG, h4, hb.trans (hb1.mono (by have := hb'.size; simp at this; omega))⟩
              case measure => simp [intOf]; omega
        · have HB := Lib.hid (sysB_good (m := m) HAC.out (by have := HA.out.len; omega) (by have := HA.out.len; omega) (fun i hi => ht.out.2 i (by have := HA.out.len; omega)))
          have HT : Hid (t = total m.states) := Lib.hid (by
            have := ht.out.1
            rwa [List.take_of_length_le (by have := HA.out.len; omega)] at this)
          by_cases hle : t ≤ 400000
          · have HB2 := Lib.hid (HB.out (by have := HT.out; omega))
            go_wp2
            go_ret
            exact ⟨by rw [HB2.out]; simp; omega, HBB.out.trans (hb'.mono HBB.out.size)⟩
          · have HB2 := Lib.hid (sysB_total (m := m) (by have := HT.out; omega))
            go_wp2
            go_ret
            exact ⟨by rw [HB2.out]; simp; omega, HBB.out.trans (hb'.mono HBB.out.size)⟩
    · have HB : Hid (sysB m = false) := Lib.hid (by
        by_cases h : k < 1
        · exact sysB_few (by have := HA.out.len; omega)
        · exact sysB_many (by have := HA.out.len; omega))
      by_cases hk1 : k < 1
      · go_enter Tryz.func8, Tryz.ntmps8
        go_wp2_with fail
        refine HC.out.mono ?_
        rintro e w' ⟨rfl, rfl⟩
        go_wp2
        go_ret
        exact ⟨by rw [HB.out]; rfl, HBB.out⟩
      · have hk2 : 5000 < k := by omega
        go_enter Tryz.func8, Tryz.ntmps8
        go_wp2_with fail
        refine HC.out.mono ?_
        rintro e w' ⟨rfl, rfl⟩
        go_wp2
        go_ret
        exact ⟨by rw [HB.out]; rfl, HBB.out⟩
end Go.Proofs.YtohljainhkdiiaaGreatDoor
/- The edges of a state, as system.String writes them behind the state's number. -/
namespace Go.Proofs.YtohljainhkdiiaaGreatDoor
open Go.RowKit Pl

theorem pack_e {w : World} {g g1 g2 o1 o2 : Nat} {t : TypeId} {x y v1 v2 : Value} (h : Whole w g t #[x, y]) (h1 : w.cell? ⟨g1, o1, none⟩ = some v1) (h2 : w.cell? ⟨g2, o2, none⟩ = some v2) :
    Whole w g t #[x, y] ∧ w.cell? ⟨g, 0, none⟩ = some x ∧ w.cell? ⟨g, 1, none⟩ = some y ∧ w.cell? ⟨g1, o1, none⟩ = some v1 ∧ w.cell? ⟨g2, o2, none⟩ = some v2 := ⟨h, h.cell 0, h.cell 1, h1, h2⟩
theorem up_bld {W w' : World} {B b : Nat} {l : List UInt8} (hb : Below W.heap.size W w') (h : Bld B b l W) : Bld B b l w' := h.up hb
theorem bld_lt {W : World} {B b : Nat} {l : List UInt8} (h : Bld B b l W) : b < W.heap.size := by
  rcases h with h | h
  · exact h.lt
  · exact h.lt
theorem below_two {a b c : World} (h : Below a.heap.size a b) (k : Below b.heap.size b c) : Below a.heap.size a c := h.trans (k.mono h.size)
theorem bstr_any (B b : Nat) (l : List UInt8) (w : World) (h : Bld B b l w) (hB : B ≤ w.heap.size) :
    Calls Tryz.prog 66 #[.pointer (some ⟨b, 0, none⟩)] w fun e w' => e = .returned (.string (mk l)) ∧ Below B w w' := Tryz.Builder_String_any B b l w h hB
/-- the first y edges of a state -/
def lineS (acts : List ByteArray) (l : List Edg) (y : Nat) : List UInt8 := (l.take y).flatMap (edgeS acts)
theorem lineS_zero (acts : List ByteArray) (l : List Edg) : lineS acts l 0 = [] := rfl
theorem lineS_all (acts : List ByteArray) (l : List Edg) : lineS acts l l.length = l.flatMap (edgeS acts) := by unfold lineS; rw [List.take_length]
theorem lineS_next (acts : List ByteArray) (l : List Edg) (y : Nat) (h : y < l.length) : lineS acts l (y + 1) = lineS acts l y ++ edgeS acts (edAt l y) := by
  unfold lineS
  rw [take_next l y (0, 0) h, List.flatMap_append, List.flatMap_singleton]
  rfl
theorem lineS_len {m : Syst} (h : sysB m = true) {x : Nat} (hx : x < m.states.length) (y : Nat) : (lineS m.acts (stAt m.states x) y).length ≤ 17200000 := by
  have hs := (sysB_iff m).1 h
  have h1 := flat_len hs.1 (ns := m.states.length) (by omega) ((stAt m.states x).take y) (fun e he => row_ok h hx e (List.mem_of_mem_take he))
  have h3 := total_take m.states x hx
  have h4 := total_take_le m.states (x + 1)
  have h5 : ((stAt m.states x).take y).length ≤ (stAt m.states x).length := by rw [List.length_take]; omega
  unfold lineS
  omega
theorem bld_fresh {w : World} {B : Nat} (h : Whole w B 125 #[.pointer none, .slice none 0 0]) : Bld B B [] w := Or.inl ⟨Nat.le_refl _, .slice none 0 0, h, World.ownsRow_nil _ _ _ _, by simp [Value.ownBlock]⟩

set_option maxRecDepth 100000 in
set_option maxHeartbeats 4000000 in
theorem line_any {w : World} {a : Option Addr} {n c : Nat} {b : Option Addr} {k d : Nat} {m : Syst} {g x ni ci : Nat} {ai : Option Addr} (E : Env w) (A : SysArg w a n c b k d m) (hv : sysB m = true)
    (hg : Whole w g 25 #[.slice a n c, .slice b k d]) (hx : x < m.states.length) (hE : EdgeArg w ai ni ci (stAt m.states x)) :
    Calls Tryz.prog 63 #[.slice ai ni ci, .pointer (some ⟨g, 0, none⟩)] w fun e w' => e = .returned (.string (mk ((stAt m.states x).flatMap (edgeS m.acts)))) ∧ Below w.heap.size w w' := by
  have HA := Lib.hid A
  have HE := Lib.hid E
  have HS := Lib.hid hv
  have HX := Lib.hid hx
  have HEd := Lib.hid hE
  have hn8 : n ≤ 8 := by have := ((actsB_iff m.acts).1 ((sysB_iff m).1 hv).1).1; have := A.acts.len; omega
  have hk5 : k ≤ 5000 := by have := ((sysB_iff m).1 hv).2.2.1; have := A.len; omega
  have hni : ni ≤ 400000 := by
    have h3 := hE.len
    have h4 := total_take m.states x hx
    have h5 := total_take_le m.states (x + 1)
    have := ((sysB_iff m).1 hv).2.2.2.2
    omega
  have q0 := hg.cell 0
  simp only [List.getElem?_toArray, List.getElem?_cons_zero] at q0
  have hgl := hg.lt
  have b0 := bld_fresh (Whole.new w 125 #[.pointer none, .slice none 0 0])
  have hB1 : Below w.heap.size w (w.alloc (.cells #[.pointer none, .slice none 0 0] 125)) := (Below.refl _ w).alloc (Nat.le_refl _) _
  have HB0 := Lib.hid b0
  have HB1 := Lib.hid hB1
  clear E A hv hg hx hE b0 hB1
  go_enter Tryz.func63, Tryz.ntmps63
  go_wp2
  go_loopw [6, 9] (fun _ i wr => ∃ y : Nat, y ≤ ni ∧ i = .int .i64 y ∧ Bld w.heap.size w.heap.size (lineS m.acts (stAt m.states x) y) wr ∧ Below w.heap.size w wr) (fun _ i _ => ni - (intOf i).toNat)
  case atStart => exact ⟨0, Nat.zero_le _, rfl, HB0.out, HB1.out⟩
  case round =>
    obtain ⟨y, hy, rfl, hBy, hby⟩ := hrel
    have HBy := Lib.hid hBy
    have Hby := Lib.hid hby
    have hzy := hby.size
    have o1 : wr.cell? ⟨g, 0, none⟩ = some (.slice a n c) := (hby.cell hgl).trans q0
    clear hBy hby
    by_cases hlt3 : y < ni
    · obtain ⟨be, oe, rfl, d1, d2⟩ := (HEd.out.cells.below Hby.out) y (by have := HEd.out.len; omega)
      have hok : okE m.acts.length m.states.length (edAt (stAt m.states x) y) = true := by
        have h3 := (edgesB_iff _ _ _).1 (((sysB_iff m).1 HS.out).2.2.2.1 x HX.out) y (by have := HEd.out.len; omega)
        unfold edgeB at h3
        rw [Bool.and_eq_true] at h3
        exact h3.1
      have hok2 := (okE_iff _ _ _).1 hok
      obtain ⟨u, hu⟩ := Int.eq_ofNat_of_zero_le hok2.1
      obtain ⟨v, hv⟩ := Int.eq_ofNat_of_zero_le hok2.2.2.1
      have hu8 : u < n := by have := HA.out.acts.len; omega
      have hvk : v < k := by have := HA.out.len; omega
      obtain ⟨ba, oa, rfl, a0⟩ := HA.out.acts.cells u (by have := HA.out.acts.len; omega)
      obtain ⟨z, HZ⟩ : ∃ z, Hid (at_ m.acts u = z) := ⟨_, Lib.hid rfl⟩
      change w.cell? _ = some (.string (at_ m.acts u)) at a0
      rw [HZ.out] at a0
      have a1 := (Hby.out.cell (lt_of_cell a0)).trans a0
      rw [hu] at d1
      rw [hv] at d2
      have hzs : z.size ≤ 20 := by
        have := nm_len ((sysB_iff m).1 HS.out).1 (k := u) (by have := HA.out.acts.len; omega)
        rw [HZ.out] at this
        rw [Lib.size_eq]; exact this
      obtain ⟨D2, HD2⟩ : ∃ D, Hid (mk (Lib.decDigits v) = D) := ⟨_, Lib.hid rfl⟩
      have hD2 : D2.size ≤ 21 := by rw [← HD2.out, mk_size']; exact dec_length v (by omega)
      have hsp : (⟨#[32]⟩ : ByteArray).size = 1 := rfl
      have HN2 : Hid (lineS m.acts (stAt m.states x) y ++ ((⟨#[32]⟩ : ByteArray) ++ z ++ (⟨#[32]⟩ : ByteArray) ++ D2).data.toList = lineS m.acts (stAt m.states x) (y + 1)) := Lib.hid (by
        rw [lineS_next m.acts _ y (by have := HEd.out.len; omega)]
        unfold edgeS nmS
        rw [hu, hv, ← HD2.out]
        simp only [Int.toNat_natCast]
        rw [HZ.out]
        simp [ByteArray.data_append, mk])
      have HL2 := Lib.hid (lineS_len HS.out HX.out y)
      have HBo := Lib.hid (fun o : Obj => HBy.out.up ((Below.refl _ wr).alloc (Nat.le_refl _) o))
      have HEr := Lib.hid (HE.out.below Hby.out)
      have hu0 : (0 : Int) ≤ (u : Int) := by omega
      have hu1 : (u : Int) < n := by omega
      have zz0 : g < wr.heap.size := lt_of_cell o1
      have zz1 : ba < wr.heap.size := lt_of_cell a1
      have zz2 : ba < w.heap.size := lt_of_cell a0
      have zz5 : w.heap.size < wr.heap.size := bld_lt HBy.out
      clear hok hok2 hu hv a0
      go_wp2
      have hadd1 : ¬ 9223372036854775807 < (⟨#[32]⟩ : ByteArray).size + z.size := by omega
      have hadd2 : ¬ 9223372036854775807 < ((⟨#[32]⟩ : ByteArray) ++ z).size + (⟨#[32]⟩ : ByteArray).size := by rw [ByteArray.size_append]; omega
      have hadd3 : ¬ 9223372036854775807 < ((⟨#[32]⟩ : ByteArray) ++ z ++ (⟨#[32]⟩ : ByteArray)).size + D2.size := by rw [ByteArray.size_append, ByteArray.size_append]; omega
      have hadd4 : ¬ 9223372036854775807 < 1 + z.size := by omega
      have hadd5 : ¬ 9223372036854775807 < 1 + z.size + 1 := by omega
      have hadd6 : ¬ 9223372036854775807 < 1 + z.size + 1 + D2.size := by omega
      have hadd7 : ¬ 9223372036854775807 < ((⟨#[32]⟩ : ByteArray) ++ z).size + 1 := by rw [ByteArray.size_append]; omega
      go_region_held3 (fun w' => Whole w' wr.heap.size 71 #[.int .i64 u, .int .i64 v] ∧ w'.cell? ⟨wr.heap.size, 0, none⟩ = some (.int .i64 u) ∧ w'.cell? ⟨wr.heap.size, 1, none⟩ = some (.int .i64 v) ∧ w'.cell? ⟨g, 0, none⟩ = some (.slice (some ⟨ba, oa, none⟩) n c) ∧ w'.cell? ⟨ba, oa + u, none⟩ = some (.string z))
        ((refine pack_e ?_ ?_ ?_ <;> first | assumption | exact Whole.new _ _ _ | go_keep))
        (first
          | (go_at_call 65; (refine (itoa_any v (by omega) _ (HEr.out.below ?_)).mono ?_; (first | exact ((Below.refl _ _).alloc (Nat.le_refl _) _).drew | exact ((Below.refl _ _).alloc (Nat.le_refl _) _)); rw [HD2.out]; rintro e wJ ⟨rfl, hbJ⟩; have kI0 := up_whole hbJ (show Whole _ wr.heap.size 71 #[.int .i64 u, .int .i64 v] from Whole.new wr _ _); have kI1 := up_cell (p := ⟨g, 0, none⟩) hbJ (cell_new o1 _); have kI2 := up_cell (p := ⟨ba, oa + u, none⟩) hbJ (cell_new a1 _); have kIz := hbJ.size))
          | (go_at_call 64; (refine (write_any w.heap.size w.heap.size (lineS m.acts (stAt m.states x) y) ((⟨#[32]⟩ : ByteArray) ++ z ++ (⟨#[32]⟩ : ByteArray) ++ D2) _ (up_bld hbJ (HBo.out (.cells #[.int .i64 u, .int .i64 v] 71))) ?_ ?_).mono ?_; (simp only [ByteArray.size_append]; have := HL2.out; omega); (simp at kIz; omega); rw [HN2.out]; rintro e wK ⟨rfl, hBK, hbK, hkK⟩; have kK0 := hkK wr.heap.size _ _ (by omega) (by decide) kI0; have kK1 := (hbK.cell (p := ⟨g, 0, none⟩) hgl).trans kI1; have kK2 := (hbK.cell (p := ⟨ba, oa + u, none⟩) zz2).trans kI2)))
      go_wp2
      go_roundw
      case rel =>
        have hbw : Below wr.heap.size wr wJ := by
          first
            | exact below_two ((Below.refl _ wr).alloc (Nat.le_refl _) (.cells #[.int .i64 u, .int .i64 v] 71)) hbJ
            | exact below_two ((Below.refl _ wr).alloc (Nat.le_refl _) (.cells #[.int .i64 u, .int .i64 v] 71)).drew hbJ
        exact ⟨y + 1, by omega, by go_num, hBK, (Hby.out.trans (hbw.mono hzy)).trans hbK⟩
      case measure => simp [intOf]; omega
    · have HN3 : Hid (lineS m.acts (stAt m.states x) y = (stAt m.states x).flatMap (edgeS m.acts)) := Lib.hid (by
        have h3 : y = (stAt m.states x).length := by have := HEd.out.len; omega
        rw [h3]; exact lineS_all _ _)
      have hBe := HBy.out
      rw [HN3.out] at hBe
      have HSt := Lib.hid (bstr_any w.heap.size w.heap.size _ wr hBe hzy)
      clear hBe
      go_wp2_with fail
      refine HSt.out.mono ?_
      rintro e w7 ⟨rfl, hb7⟩
      go_wp2
      go_ret
      exact ⟨rfl, Hby.out.trans hb7⟩
end Go.Proofs.YtohljainhkdiiaaGreatDoor
