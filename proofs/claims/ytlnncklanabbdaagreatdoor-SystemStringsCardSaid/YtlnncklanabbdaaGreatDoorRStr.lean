/- The reference's String. -/
import Derived.Test.YtlnncklanabbdaaGreatDoorHead
import Derived.Test.YtlnncklanabbdaaGreatDoorDigits
import Derived.Test.YtlnncklanabbdaaGreatDoorCopy
import Derived.Deep.RegionHeld3
namespace Go.Proofs.YtlnncklanabbdaaGreatDoor
open Go.RowKit Pl

theorem strK_zero (m : Syst) : strK m 0 = headS m.acts ++ [10] := by simp [strK]
set_option maxRecDepth 100000 in
set_option maxHeartbeats 8000000 in
theorem RString_any {w : World} {a : Option Addr} {n c : Nat} {b : Option Addr} {k d : Nat} {m : Syst} (A : SysArg w a n c b k d m) (hv : sysB m = true) :
    Calls Tryz.prog 20 #[.agg #[.slice a n c, .slice b k d]] w fun e w' => e = .returned (.string (mk (strS m))) ∧ Below w.heap.size w w' := by
  obtain ⟨i0, hi, hz0, hz1, hz2⟩ := info_parts infoByte
  have hB := (Below.refl w.heap.size w).alloc (Nat.le_refl _) (.cells #[.slice a n c, .slice b k d] 25)
  have hs := (sysB_iff m).1 hv
  have HS := Lib.hid hv
  have hW := Whole.new w 25 #[.slice a n c, .slice b k d]
  obtain ⟨w1, hw1⟩ : ∃ w1, w.alloc (.cells #[.slice a n c, .slice b k d] 25) = w1 := ⟨_, rfl⟩
  rw [hw1] at hB hW
  have HW1' := Lib.hid hw1
  have hA := A.below hB
  have HH := Lib.hid (Head_any hA.acts hs.1)
  have hn8 : n ≤ 8 := by have := ((actsB_iff m.acts).1 hs.1).1; have := A.acts.len; omega
  have hk5 : k ≤ 5000 := by have := A.len; omega
  have HA := Lib.hid hA
  have HB0 := Lib.hid hB
  have hz10 : w.heap.size < w1.heap.size := hW.lt
  have q0 : w1.cell? ⟨w.heap.size, 0, none⟩ = some (.slice a n c) := hW.cell 0
  have q1 : w1.cell? ⟨w.heap.size, 1, none⟩ = some (.slice b k d) := hW.cell 1
  clear hB hA A hs hv hW hw1
  go_enter Tryz.func20, Tryz.ntmps20
  go_wp2_with fail
  rw [HW1'.out]
  refine HH.out.mono ?_
  rintro e w2 ⟨v2, rfl, hrow, hb2⟩
  rw [← strK_zero] at hrow
  have p1 : w2.cell? ⟨w.heap.size, 1, none⟩ = some (.slice b k d) := up_cell hb2 q1
  have HR2 := Lib.hid hrow
  have Hb2 := Lib.hid hb2
  clear hrow hb2
  go_wp2
  go_loopw [3, 4, 5, 7, 14, 26] (fun v _ _ _ i _ wr => ∃ x : Nat, x ≤ k ∧ i = .int .i64 x ∧ BRow w1.heap.size wr v (strK m x) ∧ Below w1.heap.size w1 wr) (fun _ _ _ _ i _ _ => k - (intOf i).toNat)
  case atStart => exact ⟨0, Nat.zero_le _, rfl, HR2.out, Hb2.out⟩
  case round =>
    obtain ⟨w0, hw0⟩ : ∃ z, z = wr := ⟨_, rfl⟩
    subst hw0
    obtain ⟨x, hx, rfl, hrow, hbx⟩ := hrel
    obtain ⟨va, vc, rfl⟩ := hrow.slice
    have HBx := Lib.hid hrow
    have Hbx := Lib.hid hbx
    have hzx := hbx.size
    clear hrow hbx
    by_cases hlt2 : x < k
    · obtain ⟨bx2, off2, rfl, ai, ni, ci, c0, hE⟩ := HA.out.rows x (by have := HA.out.len; omega)
      have c1 : w0.cell? ⟨bx2, off2 + x, none⟩ = some (.slice ai ni ci) := (Hbx.out.cell (lt_of_cell c0)).trans c0
      clear c0
      have HEd := Lib.hid hE
      have hni : ni ≤ 400000 := by
        have h3 := hE.len
        have h4 := total_take m.states x (by have := HA.out.len; omega)
        have h5 := total_take_le m.states (x + 1)
        have := ((sysB_iff m).1 HS.out).2.2.2.2
        omega
      clear hE
      have HI := Lib.hid (Digits_any x (by omega) w0)
      obtain ⟨D, HD⟩ : ∃ D, Hid (mk (Lib.decDigits x) = D) := ⟨_, Lib.hid rfl⟩
      rw [HD.out] at HI
      have hD : D.size ≤ 21 := by rw [← HD.out, mk_size']; exact dec_length x (by omega)
      have hcol : (⟨#[58]⟩ : ByteArray).size = 1 := rfl
      have hadd1 : ¬ 9223372036854775807 < D.size + 1 := by omega
      have hadd2 : ¬ 9223372036854775807 < D.size + (⟨#[58]⟩ : ByteArray).size := by omega
      have HN : Hid (strK m x ++ (D ++ (⟨#[58]⟩ : ByteArray)).data.toList = strX m x 0) := Lib.hid (by
        rw [strX_zero, ← HD.out]
        simp [ByteArray.data_append, mk])
      have HXl : Hid ((strK m x).length + (D ++ (⟨#[58]⟩ : ByteArray)).data.toList.length ≤ 140737488355328) := Lib.hid (by
        have := strX_len HS.out (k := x) (x := 0) (by have := HA.out.len; omega)
        rw [← HN.out, List.length_append] at this
        omega)
      go_wp2_with fail
      refine HI.out.mono ?_
      rintro e wI ⟨rfl, rfl⟩
      go_wp2_with (at_builtin; (refine wpList_append_bytes rfl (.tmp 19) (.tmp 22) 88 9 rfl w1.heap.size 5 i0 Tryz.underlying88 hi hz0 hz1 hz2 _ rfl (strK m x) HBx.out hzx (.string (D ++ (⟨#[58]⟩ : ByteArray))) rfl (D ++ (⟨#[58]⟩ : ByteArray)).data.toList (str_src _ _) HXl.out ?_); intro v5 w5 hB5 hg5; refine Hid.out ?_)
      refine Lib.hid ?_
      rw [HN.out] at hB5
      have HB5 := Lib.hid hB5
      have Hb15 := Lib.hid (Hbx.out.grown hg5 hzx HBx.out.ge)
      clear hB5 hg5
      go_wp2
      go_loopw [3, 7, 26] (fun v _ i wr => ∃ y : Nat, y ≤ ni ∧ i = .int .i64 y ∧ BRow w1.heap.size wr v (strX m x y) ∧ Below w1.heap.size w1 wr) (fun _ _ i _ => ni - (intOf i).toNat)
      case atStart => exact ⟨0, Nat.zero_le _, rfl, HB5.out, Hb15.out⟩
      case round =>
        obtain ⟨y, hy, rfl, hBy, hby⟩ := hrel
        obtain ⟨ya, yc, rfl⟩ := hBy.slice
        have HBy := Lib.hid hBy
        have Hby := Lib.hid hby
        have hzy := hby.size
        have o1 : wr.cell? ⟨w.heap.size, 0, none⟩ = some (.slice a n c) := (hby.cell (lt_of_cell q0)).trans q0
        clear hBy hby
        by_cases hlt3 : y < ni
        · obtain ⟨be, oe, rfl, d1, d2⟩ := (HEd.out.cells.below Hby.out) y (by have := HEd.out.len; omega)
          have hok : okE m.acts.length m.states.length (edAt (stAt m.states x) y) = true := by
            have h3 := (edgesB_iff _ _ _).1 (((sysB_iff m).1 HS.out).2.2.2.1 x (by have := HA.out.len; omega)) y (by have := HEd.out.len; omega)
            unfold edgeB at h3
            rw [Bool.and_eq_true] at h3
            exact h3.1
          have hok2 := (okE_iff _ _ _).1 hok
          obtain ⟨u, hu⟩ := Int.eq_ofNat_of_zero_le hok2.1
          obtain ⟨v, hv⟩ := Int.eq_ofNat_of_zero_le hok2.2.2.1
          have hu8 : u < n := by have := HA.out.acts.len; omega
          have hvk : v < k := by have := HA.out.len; omega
          obtain ⟨ba, oa, rfl, a0⟩ := HA.out.acts.cells u (by have := HA.out.acts.len; omega)
          obtain ⟨z, HZ⟩ : ∃ z, Hid (at_ m.acts u = z) := ⟨_, Lib.hid rfl⟩
          change w1.cell? _ = some (.string (at_ m.acts u)) at a0
          rw [HZ.out] at a0
          have a1 := (Hby.out.cell (lt_of_cell a0)).trans a0
          rw [hu] at d1
          rw [hv] at d2
          have hzs : z.size ≤ 20 := by
            have := nm_len ((sysB_iff m).1 HS.out).1 (k := u) (by have := HA.out.acts.len; omega)
            rw [HZ.out] at this
            rw [Lib.size_eq]; exact this
          obtain ⟨D2, HD2⟩ : ∃ D, Hid (mk (Lib.decDigits v) = D) := ⟨_, Lib.hid rfl⟩
          have hD2 : D2.size ≤ 21 := by rw [← HD2.out, mk_size']; exact dec_length v (by omega)
          have hsp : (⟨#[32]⟩ : ByteArray).size = 1 := rfl
          have HN2 : Hid (strX m x y ++ ((⟨#[32]⟩ : ByteArray) ++ z ++ (⟨#[32]⟩ : ByteArray) ++ D2).data.toList = strX m x (y + 1)) := Lib.hid (by
            rw [strX_next m x y (by have := HEd.out.len; omega)]
            unfold edgeS nmS
            rw [hu, hv, ← HD2.out]
            simp only [Int.toNat_natCast]
            rw [HZ.out]
            simp [ByteArray.data_append, mk])
          have HL2 : Hid ((strX m x y).length + ((⟨#[32]⟩ : ByteArray) ++ z ++ (⟨#[32]⟩ : ByteArray) ++ D2).data.toList.length ≤ 140737488355328) := Lib.hid (by
            have := strX_len HS.out (k := x) (x := y + 1) (by have := HA.out.len; omega)
            rw [← HN2.out, List.length_append] at this
            omega)
          have hal : Below wr.heap.size wr (wr.alloc (.cells #[.int .i64 u, .int .i64 v] 81)) := (Below.refl _ wr).alloc (Nat.le_refl _) _
          have HAl := Lib.hid hal
          have hu0 : (0 : Int) ≤ (u : Int) := by omega
          have hu1 : (u : Int) < n := by omega
          have e0 : (wr.alloc (.cells #[.int .i64 u, .int .i64 v] 81)).cell? ⟨wr.heap.size, 0, none⟩ = some (.int .i64 u) := (Whole.new wr 81 #[.int .i64 u, .int .i64 v]).cell 0
          have e1 : (wr.alloc (.cells #[.int .i64 u, .int .i64 v] 81)).cell? ⟨wr.heap.size, 1, none⟩ = some (.int .i64 v) := (Whole.new wr 81 #[.int .i64 u, .int .i64 v]).cell 1
          have e2 : (wr.alloc (.cells #[.int .i64 u, .int .i64 v] 81)).cell? ⟨w.heap.size, 0, none⟩ = some (.slice (some ⟨ba, oa, none⟩) n c) := cell_new o1 _
          have e3 : (wr.alloc (.cells #[.int .i64 u, .int .i64 v] 81)).cell? ⟨ba, oa + u, none⟩ = some (.string z) := cell_new a1 _
          have HBr := Lib.hid (HBy.out.below hal)
          have HKeep : Hid (∀ wA : World, (wr.alloc (.cells #[.int .i64 u, .int .i64 v] 81)).grownBy wA (Value.slice ya (strX m x y).length yc).ownBlock →
              wA.cell? ⟨wr.heap.size, 0, none⟩ = some (.int .i64 u) ∧ wA.cell? ⟨wr.heap.size, 1, none⟩ = some (.int .i64 v) ∧ wA.cell? ⟨w.heap.size, 0, none⟩ = some (.slice (some ⟨ba, oa, none⟩) n c) ∧ wA.cell? ⟨ba, oa + u, none⟩ = some (.string z)) := Lib.hid fun wA hg => by
            obtain ⟨g, cap, hge, hgB, hgl, _⟩ := HBy.out
            have hr : (Value.slice ya (strX m x y).length yc).ownBlock = some g := by rw [hge]; rfl
            rw [hr] at hg
            have kk : ∀ (p : Addr) (val : Value), (wr.alloc (.cells #[.int .i64 u, .int .i64 v] 81)).cell? p = some val → p.block ≠ g → wA.cell? p = some val := fun p val hp hne => by
              rw [World.cell?_of_block (hg.block p.block (lt_of_cell hp) (fun e => hne (Option.some.inj e)))]
              exact hp
            have l0 : ba < w1.heap.size := lt_of_cell a0
            exact ⟨kk _ _ e0 (by simp; omega), kk _ _ e1 (by simp; omega), kk _ _ e2 (by simp; omega), kk _ _ e3 (by simp; omega)⟩
          clear hok hok2 hu hv a0 hal
          go_wp2
          have hadd1 : ¬ 9223372036854775807 < (⟨#[32]⟩ : ByteArray).size + z.size := by omega
          have hadd2 : ¬ 9223372036854775807 < ((⟨#[32]⟩ : ByteArray) ++ z).size + (⟨#[32]⟩ : ByteArray).size := by rw [ByteArray.size_append]; omega
          have hadd3 : ¬ 9223372036854775807 < ((⟨#[32]⟩ : ByteArray) ++ z ++ (⟨#[32]⟩ : ByteArray)).size + D2.size := by rw [ByteArray.size_append, ByteArray.size_append]; omega
          have hadd4 : ¬ 9223372036854775807 < 1 + z.size := by omega
          have hadd5 : ¬ 9223372036854775807 < 1 + z.size + 1 := by omega
          have hadd6 : ¬ 9223372036854775807 < 1 + z.size + 1 + D2.size := by omega
          have hadd7 : ¬ 9223372036854775807 < ((⟨#[32]⟩ : ByteArray) ++ z).size + 1 := by rw [ByteArray.size_append]; omega
          go_region_held3 (fun w' => w'.cell? ⟨wr.heap.size, 0, none⟩ = some (.int .i64 u) ∧ w'.cell? ⟨wr.heap.size, 1, none⟩ = some (.int .i64 v) ∧ w'.cell? ⟨w.heap.size, 0, none⟩ = some (.slice (some ⟨ba, oa, none⟩) n c) ∧ w'.cell? ⟨ba, oa + u, none⟩ = some (.string z))
            ((first | assumption | exact ⟨e0, e1, e2, e3⟩ | go_keep))
            (first
              | (go_at_call 54; refine (Digits_any v (by omega) _).mono ?_; rw [HD2.out]; rintro e w' ⟨rfl, rfl⟩)
              | (refine step_append_bytes rfl (.tmp 30) (.tmp 42) 88 9 rfl w1.heap.size 5 i0 Tryz.underlying88 hi hz0 hz1 hz2 (.slice ya (strX m x y).length yc) rfl (strX m x y) HBr.out.drew (by simp; omega) (.string ((⟨#[32]⟩ : ByteArray) ++ z ++ (⟨#[32]⟩ : ByteArray) ++ D2)) rfl ((⟨#[32]⟩ : ByteArray) ++ z ++ (⟨#[32]⟩ : ByteArray) ++ D2).data.toList (str_src _ _) HL2.out ?_; intro v7 w7 hB7 hg7; have kK := HKeep.out w7 (grown_drew hg7)))
          rw [HN2.out] at hB7
          have HB7 := Lib.hid hB7
          have Hb7 := Lib.hid ((Hby.out.trans (HAl.out.mono hzy)).grown (grown_drew hg7) (by simp; omega) HBy.out.ge)
          clear hB7 hg7 kK
          go_wp2
          go_roundw
          case rel => exact ⟨y + 1, by omega, by go_num, HB7.out, Hb7.out⟩
          case measure => simp [intOf]; omega
        · have HN3 : Hid (strX m x y ++ [10] = strK m (x + 1)) := Lib.hid (by
            have h3 : y = (stAt m.states x).length := by have := HEd.out.len; omega
            rw [h3]; exact strX_end m x)
          have HL3 := Lib.hid (strX_len HS.out (k := x) (x := y) (by have := HA.out.len; omega))
          have hal : Below wr.heap.size wr (wr.alloc (.cells #[byteV 10] 5)) := (Below.refl _ wr).alloc (Nat.le_refl _) _
          go_wp2_with (at_builtin; (refine wpList_append_bytes rfl (.tmp 45) (.tmp 46) 88 88 rfl w1.heap.size 5 i0 Tryz.underlying88 hi hz0 hz1 hz2 _ rfl (strX m x y) (HBy.out.below hal) (by simp; omega) (.slice (some ⟨wr.heap.size, 0, none⟩) 1 1) rfl [10] (one_byte wr 10 _) (by have := HL3.out; simp; omega) ?_); intro v6 w6 hB6 hg6; refine Hid.out ?_)
          refine Lib.hid ?_
          rw [HN3.out] at hB6
          have HB6 := Lib.hid hB6
          have Hb6 := Lib.hid ((Hby.out.trans (hal.mono hzy)).grown hg6 (by simp; omega) HBy.out.ge)
          clear hB6 hg6 hal
          go_wp2
          go_roundw
          case rel => exact ⟨x + 1, by omega, by go_num, HB6.out, Hb6.out⟩
          case measure => simp [intOf]; omega
    · obtain rfl : x = k := by omega
      have HC := HBx.out.string
      have HN : Hid (strK m x = strS m) := Lib.hid (by unfold strS; rw [HA.out.len])
      have HF := Lib.hid (HB0.out.trans (Hbx.out.mono (Nat.le_of_lt hz10)))
      go_wp2_with (rw [HC])
      go_ret
      exact ⟨by rw [← HN.out]; rfl, HF.out⟩
end Go.Proofs.YtlnncklanabbdaaGreatDoor
