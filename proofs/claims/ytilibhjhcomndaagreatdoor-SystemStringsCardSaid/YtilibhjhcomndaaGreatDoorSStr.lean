/- system.String. -/
import Derived.Test.YtilibhjhcomndaaGreatDoorStrPl
import Derived.Deep.RegionHeld3
namespace Go.Proofs.YtilibhjhcomndaaGreatDoor
open Go.RowKit Pl

theorem pack_e {w : World} {g g1 g2 o1 o2 : Nat} {t : TypeId} {x y v1 v2 : Value} (h : Whole w g t #[x, y]) (h1 : w.cell? ⟨g1, o1, none⟩ = some v1) (h2 : w.cell? ⟨g2, o2, none⟩ = some v2) :
    Whole w g t #[x, y] ∧ w.cell? ⟨g, 0, none⟩ = some x ∧ w.cell? ⟨g, 1, none⟩ = some y ∧ w.cell? ⟨g1, o1, none⟩ = some v1 ∧ w.cell? ⟨g2, o2, none⟩ = some v2 := ⟨h, h.cell 0, h.cell 1, h1, h2⟩
theorem up_bld {W w' : World} {B b : Nat} {l : List UInt8} (hb : Below W.heap.size W w') (h : Bld B b l W) : Bld B b l w' := h.up hb
theorem bld_lt {W : World} {B b : Nat} {l : List UInt8} (h : Bld B b l W) : b < W.heap.size := by
  rcases h with h | h
  · exact h.lt
  · exact h.lt
theorem below_two {a b c : World} (h : Below a.heap.size a b) (k : Below b.heap.size b c) : Below a.heap.size a c := h.trans (k.mono h.size)
def sstrV (m : Syst) : Value := if sysB m = true then .tuple #[.string (mk (strS m)), .int .i64 0] else .tuple #[.string ⟨#[]⟩, .int .i64 20]
theorem sstrV_no {m : Syst} (h : sysB m = false) : sstrV m = .tuple #[.string ⟨#[]⟩, .int .i64 20] := by unfold sstrV; rw [h]; rfl
theorem sstrV_yes {m : Syst} (h : sysB m = true) : sstrV m = .tuple #[.string (mk (strS m)), .int .i64 0] := if_pos h
set_option maxRecDepth 100000 in
set_option maxHeartbeats 4000000 in
theorem SString_any {w : World} {a : Option Addr} {n c : Nat} {b : Option Addr} {k d : Nat} {m : Syst} (E : Env w) (A : SysArg w a n c b k d m) :
    Calls Tryz.prog 22 #[.agg #[.slice a n c, .slice b k d]] w fun e w' => e = .returned (sstrV m) ∧ Below w.heap.size w w' := by
  have hB := (Below.refl w.heap.size w).alloc (Nat.le_refl _) (.cells #[.slice a n c, .slice b k d] 25)
  have HA := Lib.hid A
  have HE := Lib.hid E
  obtain ⟨e0, e1, e2, hE⟩ := E.errs
  have HC := Lib.hid (SCheck_any (hE.below hB) (A.below hB))
  have h1 : n ≤ 140737488355328 := A.abig
  have h2 : k ≤ 140737488355328 := A.big
  have HBB := Lib.hid hB
  clear A hB E hE
  cases hv : sysB m
  · have HV := Lib.hid (sstrV_no hv)
    rw [chk_no hv] at HC
    clear hv
    go_enter Tryz.func22, Tryz.ntmps22
    go_wp2_with fail
    refine HC.out.mono ?_
    rintro e w1 ⟨rfl, hb1⟩
    go_wp2
    go_ret2
    exact ⟨by rw [HV.out]; rfl, HBB.out.trans (hb1.mono HBB.out.size)⟩
  · have HV := Lib.hid (sstrV_yes hv)
    rw [chk_yes hv] at HC
    have HS := Lib.hid hv
    clear hv
    have hs := (sysB_iff m).1 HS.out
    have hn8 : n ≤ 8 := by have := ((actsB_iff m.acts).1 hs.1).1; have := HA.out.acts.len; omega
    have hk5 : k ≤ 5000 := by have := HA.out.len; omega
    clear hs
    go_enter Tryz.func22, Tryz.ntmps22
    go_wp2_with fail
    refine HC.out.mono ?_
    rintro e w1 ⟨rfl, hb1⟩
    have hb0 := HBB.out.trans (hb1.mono HBB.out.size)
    have b0 := Lib.fresh_isBuilder 98 5 w1
    have HW := Lib.hid (write_any w1.heap.size w1.heap.size [] (mk bSystem) (w1.alloc (.cells #[.pointer none, .slice none 0 0] 98)) b0 (by rw [mk_size']; simp [bSystem]) (by simp))
    have hz := hb0.size
    have hz' := hb1.size
    have q0 : w1.cell? ⟨w.heap.size, 0, none⟩ = some (.slice a n c) := by rw [hb1.cell (by simp)]; simp
    have q1 : w1.cell? ⟨w.heap.size, 1, none⟩ = some (.slice b k d) := by rw [hb1.cell (by simp)]; simp
    have HB0 := Lib.hid hb0
    clear b0 hb0 hb1
    go_wp2_with fail
    refine HW.out.mono ?_
    rintro e w2 ⟨rfl, hB2, hb2, hk2⟩
    rw [List.nil_append, mk_data] at hB2
    have hbz : Below w1.heap.size w1 w2 := ((Below.refl w1.heap.size w1).alloc (Nat.le_refl _) (.cells #[.pointer none, .slice none 0 0] 98)).trans hb2
    have p0 : w2.cell? ⟨w.heap.size, 0, none⟩ = some (.slice a n c) := (hbz.cell (lt_of_cell q0)).trans q0
    have HBz := Lib.hid hbz
    clear hk2 hb2 hbz
    go_wp2
    go_loopw [6, 18] (fun _ i wr => ∃ j : Nat, j ≤ n ∧ i = .int .i64 j ∧ Bld w1.heap.size w1.heap.size (headP m.acts j) wr ∧ Below w1.heap.size w1 wr) (fun _ i _ => n - (intOf i).toNat)
    case atStart => exact ⟨0, Nat.zero_le _, rfl, by rw [headP_zero]; exact hB2, HBz.out⟩
    case round =>
      obtain ⟨j, hj, rfl, hBj, hbj⟩ := hrel
      have HBj := Lib.hid hBj
      have hzj := hbj.size
      clear hBj
      by_cases hlt : j < n
      · obtain ⟨bx, off, rfl, c1⟩ := (HA.out.acts.cells.below (HB0.out.trans (hbj.mono HB0.out.size))) j (by have := HA.out.acts.len; omega)
        obtain ⟨x, HX⟩ : ∃ x, Hid (at_ m.acts j = x) := ⟨_, Lib.hid rfl⟩
        change wr.cell? _ = some (.string (at_ m.acts j)) at c1
        rw [HX.out] at c1
        have hx : x.size ≤ 20 := by
          have := nm_len ((sysB_iff m).1 HS.out).1 (k := j) (by have := HA.out.acts.len; omega)
          rw [HX.out] at this
          rw [Lib.size_eq]; exact this
        have hx1 : (⟨#[32]⟩ : ByteArray).size = 1 := rfl
        have HL := Lib.hid (headP_len ((sysB_iff m).1 HS.out).1 j)
        have HN : Hid (headP m.acts j ++ ((⟨#[32]⟩ : ByteArray) ++ x).data.toList = headP m.acts (j + 1)) := Lib.hid (by
          rw [headP_next m.acts j (by have := HA.out.acts.len; omega), ← HX.out]
          simp [ByteArray.data_append])
        have HWr := Lib.hid (write_any w1.heap.size w1.heap.size _ ((⟨#[32]⟩ : ByteArray) ++ x) wr HBj.out (by have := HL.out; rw [ByteArray.size_append]; omega) hzj)
        go_wp2_with fail
        refine HWr.out.mono ?_
        rintro e w3 ⟨rfl, hB3, hb3, hk3⟩
        rw [HN.out] at hB3
        have HB3 := Lib.hid hB3
        clear hB3 hk3
        go_wp2
        go_roundw
        case rel => exact ⟨j + 1, by omega, by go_num, HB3.out, hbj.trans hb3⟩
        case measure => simp [intOf]; omega
      · obtain rfl : j = n := by omega
        have HL := Lib.hid (headP_len ((sysB_iff m).1 HS.out).1 j)
        have HN : Hid (headP m.acts j ++ (⟨#[10]⟩ : ByteArray).data.toList = strK m 0) := Lib.hid (by
          have := HA.out.acts.len
          rw [this, headP_all]
          simp [strK])
        have HWr := Lib.hid (write_any w1.heap.size w1.heap.size _ (⟨#[10]⟩ : ByteArray) wr HBj.out (by have := HL.out; have : (⟨#[10]⟩ : ByteArray).size = 1 := rfl; omega) hzj)
        go_wp2_with fail
        refine HWr.out.mono ?_
        rintro e w3 ⟨rfl, hB3, hb3, hk3⟩
        rw [HN.out] at hB3
        have hb13 := hbj.trans hb3
        have p1 : w3.cell? ⟨w.heap.size, 1, none⟩ = some (.slice b k d) := (hb13.cell (lt_of_cell q1)).trans q1
        have p2 : w3.cell? ⟨w.heap.size, 0, none⟩ = some (.slice a j c) := (hb13.cell (lt_of_cell q0)).trans q0
        have HB3 := Lib.hid hB3
        have Hb13 := Lib.hid hb13
        clear hB3 hk3 hb3 hb13
        go_wp2
        go_loopw [7, 8, 10, 30, 41] (fun _ _ _ i _ wr => ∃ x : Nat, x ≤ k ∧ i = .int .i64 x ∧ Bld w1.heap.size w1.heap.size (strK m x) wr ∧ Below w1.heap.size w1 wr) (fun _ _ _ i _ _ => k - (intOf i).toNat)
        case atStart => exact ⟨0, Nat.zero_le _, rfl, HB3.out, Hb13.out⟩
        case round =>
          obtain ⟨w0, hw0⟩ : ∃ z, z = wr := ⟨_, rfl⟩
          subst hw0
          obtain ⟨x, hx, rfl, hBx, hbx⟩ := hrel
          have HBx := Lib.hid hBx
          have Hbx := Lib.hid hbx
          have hzx := hbx.size
          have o0 : w0.cell? ⟨w.heap.size, 0, none⟩ = some (.slice a j c) := (hbx.cell (lt_of_cell q0)).trans q0
          clear hBx hbx
          by_cases hlt2 : x < k
          · obtain ⟨bx2, off2, rfl, ai, ni, ci, c0, hE⟩ := HA.out.rows x (by have := HA.out.len; omega)
            have c1 : w0.cell? ⟨bx2, off2 + x, none⟩ = some (.slice ai ni ci) := ((HB0.out.trans (Hbx.out.mono HB0.out.size)).cell (lt_of_cell c0)).trans c0
            clear c0
            have HEd := Lib.hid hE
            have hni : ni ≤ 400000 := by
              have h3 := hE.len
              have h4 := total_take m.states x (by have := HA.out.len; omega)
              have h5 := total_take_le m.states (x + 1)
              have := ((sysB_iff m).1 HS.out).2.2.2.2
              omega
            clear hE
            have HI := Lib.hid (itoa_any x (by omega) w0 (HE.out.below (HB0.out.trans (Hbx.out.mono HB0.out.size))))
            obtain ⟨D, HD⟩ : ∃ D, Hid (mk (Lib.decDigits x) = D) := ⟨_, Lib.hid rfl⟩
            rw [HD.out] at HI
            have hD : D.size ≤ 21 := by rw [← HD.out, mk_size']; exact dec_length x (by omega)
            have hcol : (⟨#[58]⟩ : ByteArray).size = 1 := rfl
            have HN : Hid (strK m x ++ (D ++ (⟨#[58]⟩ : ByteArray)).data.toList = strX m x 0) := Lib.hid (by
              rw [strX_zero, ← HD.out]
              simp [ByteArray.data_append, mk])
            go_wp2_with fail
            refine HI.out.mono ?_
            rintro e wI ⟨rfl, hbI⟩
            have hzI := hbI.size
            have HWr := Lib.hid (write_any w1.heap.size w1.heap.size _ (D ++ (⟨#[58]⟩ : ByteArray)) wI (HBx.out.up hbI) (by
              have := strX_len HS.out (k := x) (x := 0) (by have := HA.out.len; omega)
              rw [← HN.out, List.length_append] at this
              rw [ByteArray.size_append]
              omega) (by omega))
            have HbI := Lib.hid hbI
            clear hbI
            go_wp2_with fail
            refine HWr.out.mono ?_
            rintro e w5 ⟨rfl, hB5, hb5, hk5'⟩
            rw [HN.out] at hB5
            have hb15 : Below w1.heap.size w1 w5 := (Hbx.out.trans (HbI.out.mono hzx)).trans hb5
            have HB5 := Lib.hid hB5
            have Hb15 := Lib.hid hb15
            clear hB5 hk5' hb5 hb15
            go_wp2
            go_loopw [10, 41] (fun _ i wr => ∃ y : Nat, y ≤ ni ∧ i = .int .i64 y ∧ Bld w1.heap.size w1.heap.size (strX m x y) wr ∧ Below w1.heap.size w1 wr) (fun _ i _ => ni - (intOf i).toNat)
            case atStart => exact ⟨0, Nat.zero_le _, rfl, HB5.out, Hb15.out⟩
            case round =>
              obtain ⟨y, hy, rfl, hBy, hby⟩ := hrel
              have HBy := Lib.hid hBy
              have Hby := Lib.hid hby
              have hzy := hby.size
              have o1 : wr.cell? ⟨w.heap.size, 0, none⟩ = some (.slice a j c) := (hby.cell (lt_of_cell q0)).trans q0
              have HTy := Lib.hid (HB0.out.trans (hby.mono HB0.out.size))
              clear hBy hby
              by_cases hlt3 : y < ni
              · obtain ⟨be, oe, rfl, d1, d2⟩ := (HEd.out.cells.below HTy.out) y (by have := HEd.out.len; omega)
                have hok : okE m.acts.length m.states.length (edAt (stAt m.states x) y) = true := by
                  have h3 := (edgesB_iff _ _ _).1 (((sysB_iff m).1 HS.out).2.2.2.1 x (by have := HA.out.len; omega)) y (by have := HEd.out.len; omega)
                  unfold edgeB at h3
                  rw [Bool.and_eq_true] at h3
                  exact h3.1
                have hok2 := (okE_iff _ _ _).1 hok
                obtain ⟨u, hu⟩ := Int.eq_ofNat_of_zero_le hok2.1
                obtain ⟨v, hv⟩ := Int.eq_ofNat_of_zero_le hok2.2.2.1
                have hu8 : u < j := by have := HA.out.acts.len; omega
                have hvk : v < k := by have := HA.out.len; omega
                obtain ⟨ba, oa, rfl, a0⟩ := HA.out.acts.cells u (by have := HA.out.acts.len; omega)
                obtain ⟨z, HZ⟩ : ∃ z, Hid (at_ m.acts u = z) := ⟨_, Lib.hid rfl⟩
                change w.cell? _ = some (.string (at_ m.acts u)) at a0
                rw [HZ.out] at a0
                have a1 := (HTy.out.cell (lt_of_cell a0)).trans a0
                rw [hu] at d1
                rw [hv] at d2
                have hzs : z.size ≤ 20 := by
                  have := nm_len ((sysB_iff m).1 HS.out).1 (k := u) (by have := HA.out.acts.len; omega)
                  rw [HZ.out] at this
                  rw [Lib.size_eq]; exact this
                obtain ⟨D2, HD2⟩ : ∃ D, Hid (mk (Lib.decDigits v) = D) := ⟨_, Lib.hid rfl⟩
                have hD2 : D2.size ≤ 21 := by rw [← HD2.out, mk_size']; exact dec_length v (by omega)
                have hsp : (⟨#[32]⟩ : ByteArray).size = 1 := rfl
                have HN2 : Hid (strX m x y ++ ((⟨#[32]⟩ : ByteArray) ++ z ++ (⟨#[32]⟩ : ByteArray) ++ D2).data.toList = strX m x (y + 1)) := Lib.hid (by
                  rw [strX_next m x y (by have := HEd.out.len; omega)]
                  unfold edgeS nmS
                  rw [hu, hv, ← HD2.out]
                  simp only [Int.toNat_natCast]
                  rw [HZ.out]
                  simp [ByteArray.data_append, mk])
                have HL2 := Lib.hid (strX_len HS.out (k := x) (x := y) (by have := HA.out.len; omega))
                have HBo := Lib.hid (fun o : Obj => HBy.out.up ((Below.refl _ wr).alloc (Nat.le_refl _) o))
                have HEr := Lib.hid (HE.out.below HTy.out)
                have hu0 : (0 : Int) ≤ (u : Int) := by omega
                have hu1 : (u : Int) < j := by omega
                have zz0 : w.heap.size < wr.heap.size := lt_of_cell o1
                have zz1 : ba < wr.heap.size := lt_of_cell a1
                have zz2 : ba < w.heap.size := lt_of_cell a0
                have zz3 : w.heap.size < w1.heap.size := lt_of_cell q0
                have zz4 : ba < w1.heap.size := by omega
                have zz5 : w1.heap.size < wr.heap.size := bld_lt HBy.out
                clear hok hok2 hu hv a0
                go_wp2
                have hadd1 : ¬ 9223372036854775807 < (⟨#[32]⟩ : ByteArray).size + z.size := by omega
                have hadd2 : ¬ 9223372036854775807 < ((⟨#[32]⟩ : ByteArray) ++ z).size + (⟨#[32]⟩ : ByteArray).size := by rw [ByteArray.size_append]; omega
                have hadd3 : ¬ 9223372036854775807 < ((⟨#[32]⟩ : ByteArray) ++ z ++ (⟨#[32]⟩ : ByteArray)).size + D2.size := by rw [ByteArray.size_append, ByteArray.size_append]; omega
                have hadd4 : ¬ 9223372036854775807 < 1 + z.size := by omega
                have hadd5 : ¬ 9223372036854775807 < 1 + z.size + 1 := by omega
                have hadd6 : ¬ 9223372036854775807 < 1 + z.size + 1 + D2.size := by omega
                have hadd7 : ¬ 9223372036854775807 < ((⟨#[32]⟩ : ByteArray) ++ z).size + 1 := by rw [ByteArray.size_append]; omega
                go_region_held3 (fun w' => Whole w' wr.heap.size 81 #[.int .i64 u, .int .i64 v] ∧ w'.cell? ⟨wr.heap.size, 0, none⟩ = some (.int .i64 u) ∧ w'.cell? ⟨wr.heap.size, 1, none⟩ = some (.int .i64 v) ∧ w'.cell? ⟨w.heap.size, 0, none⟩ = some (.slice (some ⟨ba, oa, none⟩) j c) ∧ w'.cell? ⟨ba, oa + u, none⟩ = some (.string z))
                  ((refine pack_e ?_ ?_ ?_ <;> first | assumption | exact Whole.new _ _ _ | go_keep))
                  (first
                    | (go_at_call 59; (refine (itoa_any v (by omega) _ (HEr.out.below ?_)).mono ?_; (first | exact ((Below.refl _ _).alloc (Nat.le_refl _) _).drew | exact ((Below.refl _ _).alloc (Nat.le_refl _) _)); rw [HD2.out]; rintro e wJ ⟨rfl, hbJ⟩; have kI0 := up_whole hbJ (show Whole _ wr.heap.size 81 #[.int .i64 u, .int .i64 v] from Whole.new wr _ _); have kI1 := up_cell (p := ⟨w.heap.size, 0, none⟩) hbJ (cell_new o1 _); have kI2 := up_cell (p := ⟨ba, oa + u, none⟩) hbJ (cell_new a1 _); have kIz := hbJ.size))
                    | (go_at_call 58; (refine (write_any w1.heap.size w1.heap.size (strX m x y) ((⟨#[32]⟩ : ByteArray) ++ z ++ (⟨#[32]⟩ : ByteArray) ++ D2) _ (up_bld hbJ (HBo.out (.cells #[.int .i64 u, .int .i64 v] 81))) ?_ ?_).mono ?_; (simp only [ByteArray.size_append]; have := HL2.out; omega); (simp at kIz; omega); rw [HN2.out]; rintro e wK ⟨rfl, hBK, hbK, hkK⟩; have kK0 := hkK wr.heap.size _ _ (by omega) (by decide) kI0; have kK1 := (hbK.cell (p := ⟨w.heap.size, 0, none⟩) zz3).trans kI1; have kK2 := (hbK.cell (p := ⟨ba, oa + u, none⟩) zz4).trans kI2)))
                go_wp2
                go_roundw
                case rel =>
                  have hbw : Below wr.heap.size wr wJ := by
                    first
                      | exact below_two ((Below.refl _ wr).alloc (Nat.le_refl _) (.cells #[.int .i64 u, .int .i64 v] 81)) hbJ
                      | exact below_two ((Below.refl _ wr).alloc (Nat.le_refl _) (.cells #[.int .i64 u, .int .i64 v] 81)).drew hbJ
                  exact ⟨y + 1, by omega, by go_num, hBK, (Hby.out.trans (hbw.mono hzy)).trans hbK⟩
                case measure => simp [intOf]; omega
              · have HN3 : Hid (strX m x y ++ (⟨#[10]⟩ : ByteArray).data.toList = strK m (x + 1)) := Lib.hid (by
                  have h3 : y = (stAt m.states x).length := by have := HEd.out.len; omega
                  rw [h3]; exact strX_end m x)
                have hnl : (⟨#[10]⟩ : ByteArray).size = 1 := rfl
                have HWr2 := Lib.hid (write_any w1.heap.size w1.heap.size _ (⟨#[10]⟩ : ByteArray) wr HBy.out (by
                  have := strX_len HS.out (k := x) (x := y) (by have := HA.out.len; omega)
                  omega) hzy)
                go_wp2_with fail
                refine HWr2.out.mono ?_
                rintro e w6 ⟨rfl, hB6, hb6, hk6⟩
                rw [HN3.out] at hB6
                have HB6 := Lib.hid hB6
                clear hB6 hk6
                go_wp2
                go_roundw
                case rel => exact ⟨x + 1, by omega, by go_num, HB6.out, Hby.out.trans hb6⟩
                case measure => simp [intOf]; omega
          · have HN4 : Hid (strK m x = strS m) := Lib.hid (by
              have h3 : x = m.states.length := by have := HA.out.len; omega
              rw [h3]; rfl)
            have hBx := HBx.out
            rw [HN4.out] at hBx
            have HSt := Lib.hid (str_any w1.heap.size w1.heap.size (strS m) w0 hBx (by simp [strS, strK, headS, bSystem]))
            clear hBx
            go_wp2_with fail
            refine HSt.out.mono ?_
            rintro e w7 ⟨rfl, hb7⟩
            go_wp2
            go_ret2
            exact ⟨by rw [HV.out]; rfl, HB0.out.trans ((Hbx.out.trans hb7).mono HB0.out.size)⟩
end Go.Proofs.YtilibhjhcomndaaGreatDoor
