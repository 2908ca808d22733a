/- The members of a set, as the iterator yields them. -/
import Derived.Test.YtpmbijlldoiplaaGreatDoorCheck
import Derived.Test.YtpmbijlldoiplaaGreatDoorRange
import Derived.Shelf.Spec.TrailingZeros
namespace Go.Proofs.YtpmbijlldoiplaaGreatDoor
open Go.RowKit Go.Shelf Pl

theorem memL_next : ∀ x, x < 256 → x ≠ 0 → memL x = Lib.ctz 64 x :: memL (x &&& (x - 1)) ∧ x &&& (x - 1) < x := by decide +kernel
theorem memL_zero : memL 0 = [] := by decide
theorem memL_lt {x k : Nat} (h : k ∈ memL x) : k < 8 := by
  unfold memL at h
  rw [List.mem_filter, List.mem_range] at h
  exact h.1

/-- the table that math/bits looks up -/
def Tab (w : World) : Prop := TabAt 4 Lib.deBruijn64tab w
theorem Tab.below {w w' : World} (h : Tab w) (hb : Below w.heap.size w w') : Tab w' := fun j hj => (hb.cell (lt_of_cell (h j hj))).trans (h j hj)

set_option maxHeartbeats 400000 in
theorem tz64_core (x k idx : Nat) (w : World) (hx0 : ((x : Int) == 0) = false)
    (key : IntKind.u64.wrap (bits BinOp.and IntKind.u64 (x : Int) (IntKind.u64.wrap (-(x : Int))) * 285870213051353865) / 288230376151711744 = (idx : Int))
    (hi : idx < 64) (hk : k < 64) (hcell : w.cell? ⟨4, idx, none⟩ = some (.int .u8 k)) :
    Calls Tryz.prog 175 #[.int .u64 x] w fun e w' => e = .returned (.int .i64 k) ∧ w = w' := by
  go_enter Tryz.func175, Tryz.ntmps175
  go_wp2_with (simp only [key])
  go_ret
  exact ⟨rfl, rfl⟩
theorem tz64_any (x : Nat) (hx : x < 18446744073709551616) (h0 : x ≠ 0) (w : World) (hT : Tab w) :
    Calls Tryz.prog 175 #[.int .u64 x] w fun e w' => e = .returned (.int .i64 (Lib.ctz 64 x)) ∧ w = w' := by
  obtain ⟨hlow, hk⟩ := Lib.lowest_bit 64 x h0 hx
  obtain ⟨hi, htab⟩ := Lib.deBruijn64_at _ hk
  have hcell := hT _ hi
  rw [htab] at hcell
  exact tz64_core x _ _ w (by simp; omega) (tz64_key x _ hx h0 hlow) hi hk hcell
theorem tz_any (x : Nat) (hx : x < 18446744073709551616) (h0 : x ≠ 0) (w : World) (hT : Tab w) :
    Calls Tryz.prog 142 #[.int .u64 x] w fun e w' => e = .returned (.int .i64 (Lib.ctz 64 x)) ∧ w = w' := by
  have HT := Lib.hid hT
  clear hT
  go_enter Tryz.func142, Tryz.ntmps142
  go_wp2_with fail
  refine (tz64_any x hx h0 _ HT.out).mono ?_
  rintro e w' ⟨rfl, rfl⟩
  go_wp2
  go_ret
  exact ⟨rfl, rfl⟩

attribute [local go_sem] Oper.semAt_some

set_option maxRecDepth 100000 in
set_option maxHeartbeats 1000000 in
/-- the iterator that members makes -/
theorem members_iter (B C x : Nat) (hx : x < 256) (I : List Nat → World → Prop) (Ix : Code → List Nat → World → Prop)
    (hT : ∀ pre V, I pre V → Tab V) (hC : ∀ pre V, I pre V → V.cell? ⟨C, 0, none⟩ = some (.int .i64 x)) :
    IterOf Tryz.prog 141 #[.pointer (some ⟨C, 0, none⟩)] (fun k : Nat => #[.int .i64 k]) (fun pre k => pre ++ [k] <+: memL x) (fun xs => xs = memL x) B I Ix := by
  intro l Bk Bx W _ _ hY h0 hb0
  have hc0 := hC _ _ h0
  have HT := Lib.hid hT
  clear hT hC
  have HY := Lib.hid hY
  clear hY
  refine callsIn_of_wp Tryz.func141 rfl trivial ?_ rfl
  simp only [Tryz.ntmps141, List.size_toArray, List.length_cons, List.length_nil, Nat.reduceAdd, Nat.reduceSub, Array.replicate_succ, Array.replicate_zero, List.push_toArray, List.append_toArray, List.nil_append, List.cons_append]
  gi_wp2
  gi_loopw [3] (fun p V => ∃ (pre : List Nat) (r : Nat), p = .int .u64 r ∧ r < 256 ∧ Hid (memL x = pre ++ memL r) ∧ Hid (I pre V ∧ Bk V)) (fun p _ => (intOf p).toNat)
  case atStart => exact ⟨[], x, by simp, hx, Lib.hid rfl, Lib.hid ⟨h0, hb0⟩⟩
  case round =>
    obtain ⟨pre, r, rfl, hr, hm, hI⟩ := hrel
    by_cases hz : r = 0
    · subst hz
      gi_wp2
      go_end0
      exact ⟨⟨_, rfl⟩, .inl ⟨pre, (), by rw [hm.out, memL_zero, List.append_nil], hI.out.1, hI.out.2⟩⟩
    · obtain ⟨hn1, hn2⟩ := memL_next r hr hz
      have htz := Lib.hid (tz_any r (by omega) hz wr (HT.out _ _ hI.out.1))
      have hand := Lib.hid (bits_and_u64_nat r (r - 1) (by omega) (by omega))
      have hz' : ((r : Int) != 0) = true := by rw [bne_iff_ne]; omega
      obtain ⟨k, hk⟩ : ∃ k, Lib.ctz 64 r = k := ⟨_, rfl⟩
      obtain ⟨r', hr'⟩ : ∃ r', r &&& (r - 1) = r' := ⟨_, rfl⟩
      rw [hk] at hn1 htz
      rw [hr'] at hn1 hn2 hand
      have HM : Hid (memL x = (pre ++ [k]) ++ memL r') := Lib.hid (by rw [hm.out, hn1]; simp)
      clear hk hr' hn1 hz
      obtain ⟨fn, tmps, assign, body, hy, hR⟩ := HY.out () pre k wr hI.out.1 hI.out.2 ⟨memL r', HM.out.symm⟩
      gi_wp2_with (refine ⟨trivial, ?_⟩; gi_at_call 142; refine (callsIn_wide.2 htz.out).mono ?_; rintro e w' ⟨rfl, rfl⟩)
      refine hR.mono ?_
      rintro e W3 (⟨rfl, hI3, hb3⟩ | ⟨rfl, c, hx3, hb3⟩)
      · have hr1 : 1 ≤ (r : Int) := by omega
        gi_wp2
        go_roundw
        case rel => exact ⟨pre ++ [k], r', by rw [show (r : Int) - 1 = ((r - 1 : Nat) : Int) from by omega, hand.out], by omega, HM, Lib.hid ⟨hI3, hb3⟩⟩
        case measure => rw [show (r : Int) - 1 = ((r - 1 : Nat) : Int) from by omega, hand.out]; simp [intOf]; omega
      · gi_wp2
        refine bodyPost_ret (results_none rfl _ _ _) rfl ?_
        exact ⟨⟨_, rfl⟩, .inr ⟨_, c, hx3, hb3⟩⟩
end Go.Proofs.YtpmbijlldoiplaaGreatDoor
