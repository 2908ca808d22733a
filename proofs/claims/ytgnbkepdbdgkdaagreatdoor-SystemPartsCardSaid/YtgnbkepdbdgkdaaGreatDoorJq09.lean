/- Texts joined: Is2, Line, TText, SStr. -/
import Derived.Test.YtgnbkepdbdgkdaaGreatDoorJq02
import Derived.Test.YtgnbkepdbdgkdaaGreatDoorJq05
import Derived.Deep.RegionHeld3
import Derived.Test.YtgnbkepdbdgkdaaGreatDoorJq06
/- The reference's Is of systems. -/
namespace Go.Proofs.YtgnbkepdbdgkdaaGreatDoor
open Go.RowKit Pl

set_option maxHeartbeats 2000000 in
theorem RIs_any {w : World} {a : Option Addr} {n c : Nat} {b : Option Addr} {k d : Nat} {m : Syst} (A : SysArg w a n c b k d m) (ht : total m.states ≤ 4611686018427387904) :
    Calls Tryz.prog 9 #[.agg #[.slice a n c, .slice b k d]] w fun e w' => e = .returned (.bool (sysB m)) ∧ Below w.heap.size w w' := by
  have hB := (Below.refl w.heap.size w).alloc (Nat.le_refl _) (.cells #[.slice a n c, .slice b k d] 25)
  have HC := Lib.hid (Is_arg (A.acts.below hB))
  have HA := Lib.hid A
  have HTT := Lib.hid ht
  have h1 : n ≤ 140737488355328 := A.abig
  have h2 : k ≤ 140737488355328 := by have := A.cap; have := A.big; omega
  have HR := Lib.hid (A.rows.below hB)
  have HBB := Lib.hid hB
  clear A hB ht
  cases ha : actsB m.acts
  · have HB := Lib.hid (sysB_acts ha)
    rw [ha] at HC
    clear ha
    go_enter Tryz.func9, Tryz.ntmps9
    go_wp2_with fail
    refine HC.out.mono ?_
    rintro e w' ⟨rfl, rfl⟩
    go_wp2
    go_ret
    exact ⟨by rw [HB.out]; rfl, HBB.out⟩
  · rw [ha] at HC
    have HAC := Lib.hid ha
    clear ha
    by_cases hk : 1 ≤ k ∧ k ≤ 5000
    · obtain ⟨hk1, hk2⟩ := hk
      go_enter Tryz.func9, Tryz.ntmps9
      go_wp2_with fail
      refine HC.out.mono ?_
      rintro e w' ⟨rfl, rfl⟩
      go_wp2
      go_loopw [3, 5, 6, 7, 27] (fun s _ _ _ i wr => ∃ j t : Nat, j ≤ k ∧ i = .int .i64 j ∧ s = .int .i64 t ∧ Hid (t = total (m.states.take j) ∧ ∀ x, x < j → edgesB m.acts.length m.states.length (stAt m.states x) = true) ∧ t ≤ 4611686018427387904 ∧ Below (w.heap.size + 1) (w.alloc (.cells #[.slice a n c, .slice b k d] 25)) wr) (fun _ _ _ _ i _ => k - (intOf i).toNat)
      case atStart => exact ⟨0, 0, Nat.zero_le _, rfl, rfl, Lib.hid ⟨by simp [total], fun x hx => by omega⟩, by omega, Below.refl _ _⟩
      case round =>
        obtain ⟨w0, hw0⟩ : ∃ z, z = wr := ⟨_, rfl⟩
        subst hw0
        obtain ⟨j, t, hj, rfl, rfl, ht, htb, hb⟩ := hrel
        have hb' : Below (w.alloc (.cells #[.slice a n c, .slice b k d] 25)).heap.size (w.alloc (.cells #[.slice a n c, .slice b k d] 25)) w0 := hb.mono (by simp)
        by_cases hlt : j < k
        · obtain ⟨bb, off, rfl, ai, ni, ci, c1, hE⟩ := (HR.out.below hb') j (by have := HA.out.len; omega)
          have h3 : ni ≤ 140737488355328 := by have := hE.cap; have := hE.big; omega
          have HE := Lib.hid hE
          have HT : Hid (t + ni = total (m.states.take (j + 1))) := Lib.hid (by
            have := ht.out.1; have := total_take m.states j (by have := HA.out.len; omega); have := hE.len; omega)
          have h4 : t + ni ≤ 4611686018427387904 := by have := HT.out; have := total_take_le m.states (j + 1); have := HTT.out; omega
          have c2 : w0.cell? ⟨w.heap.size, 0, none⟩ = some (.slice a n c) := by rw [hb'.cell (by simp)]; simp
          have c3 : w0.cell? ⟨w.heap.size, 1, none⟩ = some (.slice (some ⟨bb, off, none⟩) k d) := by rw [hb'.cell (by simp)]; simp
          clear hE
          go_wp2
          go_loopw [6, 7, 37] (fun _ _ i wr => ∃ x : Nat, x ≤ ni ∧ i = .int .i64 x ∧ Hid (∀ y, y < x → edgeB n k (stAt m.states j) y = true) ∧ Below w0.heap.size w0 wr) (fun _ _ i _ => ni - (intOf i).toNat)
          case atStart => exact ⟨0, Nat.zero_le _, rfl, Lib.hid fun y hy => by omega, Below.refl _ _⟩
          case round =>
            obtain ⟨x, hx, rfl, hgood, hb1⟩ := hrel
            by_cases hxl : x < ni
            · obtain ⟨be, oe, rfl, d1, d2⟩ := (HE.out.cells.below hb1) x (by have := HE.out.len; omega)
              obtain ⟨X, HX⟩ : ∃ z, Hid ((edAt (stAt m.states j) x).1 = z) := ⟨_, Lib.hid rfl⟩
              obtain ⟨Y, HY⟩ : ∃ z, Hid ((edAt (stAt m.states j) x).2 = z) := ⟨_, Lib.hid rfl⟩
              rw [HX.out] at d1
              rw [HY.out] at d2
              have k2 : wr.cell? ⟨w.heap.size, 0, none⟩ = some (.slice a n c) := (hb1.cell (lt_of_cell c2)).trans c2
              have k3 : wr.cell? ⟨w.heap.size, 1, none⟩ = some (.slice (some ⟨bb, off, none⟩) k d) := (hb1.cell (lt_of_cell c3)).trans c3
              have K2 := cell_new k2
              have K3 := cell_new k3
              have e1 : edAt (stAt m.states j) x = (X, Y) := by rw [← HX.out, ← HY.out]
              have HE1 := Lib.hid e1
              clear e1
              have hbw : Below w.heap.size w wr := (HBB.out.trans (hb'.mono HBB.out.size)).trans (hb1.mono (Nat.le_trans HBB.out.size hb'.size))
              have hb0 := hb1.alloc hb1.size (.cells #[.int .i64 X, .int .i64 Y] 87)
              have hbz := (hbw.alloc hbw.size (.cells #[.int .i64 X, .int .i64 Y] 87))
              by_cases hok : okE n k (X, Y) = true
              · have h4' := (okE_iff _ _ _).1 hok
                simp only at h4'
                obtain ⟨o1, o2, o3, o4⟩ := h4'
                have g1 : decide (X < 0) = false := decide_eq_false (by omega)
                have g2 : decide ((n : Int) ≤ X) = false := decide_eq_false (by omega)
                have g3 : decide (Y < 0) = false := decide_eq_false (by omega)
                have g4 : decide ((k : Int) ≤ Y) = false := decide_eq_false (by omega)
                have HO := Lib.hid hok
                clear hok
                by_cases h0 : 0 < x
                · obtain ⟨z, rfl⟩ : ∃ z, x = z + 1 := ⟨x - 1, by omega⟩
                  obtain ⟨be', oe', e, f1, f2⟩ := (HE.out.cells.below hb1) z (by have := HE.out.len; omega)
                  cases e
                  obtain ⟨PX, HPX⟩ : ∃ q, Hid ((edAt (stAt m.states j) z).1 = q) := ⟨_, Lib.hid rfl⟩
                  obtain ⟨PY, HPY⟩ : ∃ q, Hid ((edAt (stAt m.states j) z).2 = q) := ⟨_, Lib.hid rfl⟩
                  rw [HPX.out] at f1
                  rw [HPY.out] at f2
                  have HE2 : Hid (edAt (stAt m.states j) (z + 1 - 1) = (PX, PY)) := Lib.hid (by rw [← HPX.out, ← HPY.out]; rfl)
                  have hg : decide ((0 : Int) < (z + 1 : Nat)) = true := decide_eq_true (by omega)
                  have hk1 : IntKind.i64.wrap (z : Int) = (z : Int) := IntWalk.i64_in _ (by omega)
                  have hk2 : (0 : Int) ≤ (z : Int) := by omega
                  have hk4 : (z : Int) < ni := by omega
                  obtain ⟨q, HQ⟩ : ∃ q, Hid (ltE (PX, PY) (X, Y) = q) := ⟨_, Lib.hid rfl⟩
                  cases q
                  · have HB := Lib.hid (sysB_edges (m := m) j (by have := HA.out.len; omega) (by
                      rw [← HA.out.len, ← HA.out.acts.len]
                      exact edgesB_bad (k := z + 1) (by have := HE.out.len; omega) (edgeB_back h0 (by rw [HE1.out, HE2.out]; exact HQ.out))))
                    go_wp2
                    go_region_held3 (fun w' => w'.cell? ⟨wr.heap.size, 0, none⟩ = some (.int .i64 X) ∧ w'.cell? ⟨wr.heap.size, 1, none⟩ = some (.int .i64 Y) ∧ w'.cell? ⟨w.heap.size, 0, none⟩ = some (.slice a n c) ∧ w'.cell? ⟨w.heap.size, 1, none⟩ = some (.slice (some ⟨bb, off, none⟩) k d) ∧ w'.cell? ⟨be, oe + z * 2, none⟩ = some (.int .i64 PX) ∧ w'.cell? ⟨be, oe + z * 2 + 1, none⟩ = some (.int .i64 PY)) (simp (maxDischargeDepth := 12) [*, World.cell?_alloc_some])
                      (first | (go_at_call 42; refine (before_at _ _ _ _ _).mono ?_; rw [HQ.out]; rintro e w' ⟨rfl, rfl⟩))
                    go_wp2
                    go_ret
                    exact ⟨by rw [HB.out]; rfl, (((hbw.alloc hbw.size _).alloc (by have := hbw.size; simp; omega) _).alloc (by have := hbw.size; simp; omega) _).drew⟩
                  · have HG : Hid (∀ y, y < z + 1 + 1 → edgeB n k (stAt m.states j) y = true) := Lib.hid fun y hy => by
                      by_cases e : y = z + 1
                      · rw [e]
                        exact edgeB_next (by rw [HE1.out]; exact HO.out) (by rw [HE1.out, HE2.out]; exact HQ.out)
                      · exact hgood.out y (by omega)
                    go_wp2
                    go_region_held3 (fun w' => w'.cell? ⟨wr.heap.size, 0, none⟩ = some (.int .i64 X) ∧ w'.cell? ⟨wr.heap.size, 1, none⟩ = some (.int .i64 Y) ∧ w'.cell? ⟨w.heap.size, 0, none⟩ = some (.slice a n c) ∧ w'.cell? ⟨w.heap.size, 1, none⟩ = some (.slice (some ⟨bb, off, none⟩) k d) ∧ w'.cell? ⟨be, oe + z * 2, none⟩ = some (.int .i64 PX) ∧ w'.cell? ⟨be, oe + z * 2 + 1, none⟩ = some (.int .i64 PY)) (simp (maxDischargeDepth := 12) [*, World.cell?_alloc_some])
                      (first | (go_at_call 42; refine (before_at _ _ _ _ _).mono ?_; rw [HQ.out]; rintro e w' ⟨rfl, rfl⟩))
                    go_wp2
                    go_roundw
                    case rel => exact ⟨z + 1 + 1, by omega, by go_num, HG, (((hb1.alloc hb1.size _).alloc (by have := hb1.size; simp; omega) _).alloc (by have := hb1.size; simp; omega) _).drew⟩
                    case measure => simp [intOf]; omega
                · have hg : decide ((0 : Int) < x) = false := decide_eq_false (by omega)
                  obtain rfl : x = 0 := by omega
                  simp only [Nat.zero_mul, Nat.add_zero] at d1 d2
                  have HG : Hid (∀ y, y < 0 + 1 → edgeB n k (stAt m.states j) y = true) := Lib.hid fun y hy => by
                    obtain rfl : y = 0 := by omega
                    exact edgeB_zero (by rw [HE1.out]; exact HO.out)
                  go_wp2
                  go_quiet (fail)
                  go_wp2
                  go_roundw
                  case rel => exact ⟨0 + 1, by omega, by go_num, HG, below_drewN (hb1.alloc hb1.size _) _⟩
                  case measure => simp [intOf]; omega
              · have HB := Lib.hid (sysB_edges (m := m) j (by have := HA.out.len; omega) (by
                  rw [← HA.out.len, ← HA.out.acts.len]
                  exact edgesB_bad (k := x) (by have := HE.out.len; omega) (edgeB_out (by rw [HE1.out]; rw [Bool.eq_false_iff]; exact hok))))
                have HOK := Lib.hid hok
                clear hok
                by_cases q1 : X < 0
                · have g1 : decide (X < 0) = true := decide_eq_true q1
                  go_wp2
                  go_quiet (fail)
                  go_wp2
                  go_ret
                  exact ⟨by rw [HB.out]; rfl, below_drewN hbz _⟩
                · have g1 : decide (X < 0) = false := decide_eq_false q1
                  by_cases q2 : (n : Int) ≤ X
                  · have g2 : decide ((n : Int) ≤ X) = true := decide_eq_true q2
                    go_wp2
                    go_quiet (fail)
                    go_wp2
                    go_ret
                    exact ⟨by rw [HB.out]; rfl, below_drewN hbz _⟩
                  · have g2 : decide ((n : Int) ≤ X) = false := decide_eq_false q2
                    by_cases q3 : Y < 0
                    · have g3 : decide (Y < 0) = true := decide_eq_true q3
                      go_wp2
                      go_quiet (fail)
                      go_wp2
                      go_ret
                      exact ⟨by rw [HB.out]; rfl, below_drewN hbz _⟩
                    · have g3 : decide (Y < 0) = false := decide_eq_false q3
                      have q4 : (k : Int) ≤ Y := by have h := HOK.out; rw [okE_iff] at h; simp only at h; omega
                      have g4 : decide ((k : Int) ≤ Y) = true := decide_eq_true q4
                      go_wp2
                      go_quiet (fail)
                      go_wp2
                      go_ret
                      exact ⟨by rw [HB.out]; rfl, below_drewN hbz _⟩
            · have HG : Hid (t + ni = total (m.states.take (j + 1)) ∧ ∀ x, x < j + 1 → edgesB m.acts.length m.states.length (stAt m.states x) = true) := Lib.hid ⟨HT.out, fun y hy => by
                by_cases e : y = j
                · rw [e, ← HA.out.len, ← HA.out.acts.len]; exact edgesB_good fun z hz => hgood.out z (by have := HE.out.len; omega)
                · exact ht.out.2 y (by omega)⟩
              go_wp2
              go_roundw
              case rel => exact ⟨j + 1, t + ni, by omega, by go_num, by go_num, HG, h4, hb.trans (hb1.mono (by have := hb'.size; simp at this; omega))⟩
              case measure => simp [intOf]; omega
        · have HB := Lib.hid (sysB_good (m := m) HAC.out (by have := HA.out.len; omega) (by have := HA.out.len; omega) (fun i hi => ht.out.2 i (by have := HA.out.len; omega)))
          have HT : Hid (t = total m.states) := Lib.hid (by
            have := ht.out.1
            rwa [List.take_of_length_le (by have := HA.out.len; omega)] at this)
          by_cases hle : t ≤ 400000
          · have HB2 := Lib.hid (HB.out (by have := HT.out; omega))
            go_wp2
            go_ret
            exact ⟨by rw [HB2.out]; simp; omega, HBB.out.trans (hb'.mono HBB.out.size)⟩
          · have HB2 := Lib.hid (sysB_total (m := m) (by have := HT.out; omega))
            go_wp2
            go_ret
            exact ⟨by rw [HB2.out]; simp; omega, HBB.out.trans (hb'.mono HBB.out.size)⟩
    · have HB : Hid (sysB m = false) := Lib.hid (by
        by_cases h : k < 1
        · exact sysB_few (by have := HA.out.len; omega)
        · exact sysB_many (by have := HA.out.len; omega))
      by_cases hk1 : k < 1
      · go_enter Tryz.func9, Tryz.ntmps9
        go_wp2_with fail
        refine HC.out.mono ?_
        rintro e w' ⟨rfl, rfl⟩
        go_wp2
        go_ret
        exact ⟨by rw [HB.out]; rfl, HBB.out⟩
      · have hk2 : 5000 < k := by omega
        go_enter Tryz.func9, Tryz.ntmps9
        go_wp2_with fail
        refine HC.out.mono ?_
        rintro e w' ⟨rfl, rfl⟩
        go_wp2
        go_ret
        exact ⟨by rw [HB.out]; rfl, HBB.out⟩
end Go.Proofs.YtgnbkepdbdgkdaaGreatDoor
/- The edges of a state, as system.String writes them behind the state's number. -/
namespace Go.Proofs.YtgnbkepdbdgkdaaGreatDoor
open Go.RowKit Pl

theorem pack_e {w : World} {g g1 g2 o1 o2 : Nat} {t : TypeId} {x y v1 v2 : Value} (h : Whole w g t #[x, y]) (h1 : w.cell? ⟨g1, o1, none⟩ = some v1) (h2 : w.cell? ⟨g2, o2, none⟩ = some v2) :
    Whole w g t #[x, y] ∧ w.cell? ⟨g, 0, none⟩ = some x ∧ w.cell? ⟨g, 1, none⟩ = some y ∧ w.cell? ⟨g1, o1, none⟩ = some v1 ∧ w.cell? ⟨g2, o2, none⟩ = some v2 := ⟨h, h.cell 0, h.cell 1, h1, h2⟩
theorem up_bld {W w' : World} {B b : Nat} {l : List UInt8} (hb : Below W.heap.size W w') (h : Bld B b l W) : Bld B b l w' := h.up hb
theorem bld_lt {W : World} {B b : Nat} {l : List UInt8} (h : Bld B b l W) : b < W.heap.size := by
  rcases h with h | h
  · exact h.lt
  · exact h.lt
theorem below_two {a b c : World} (h : Below a.heap.size a b) (k : Below b.heap.size b c) : Below a.heap.size a c := h.trans (k.mono h.size)
theorem bstr_any (B b : Nat) (l : List UInt8) (w : World) (h : Bld B b l w) (hB : B ≤ w.heap.size) :
    Calls Tryz.prog 84 #[.pointer (some ⟨b, 0, none⟩)] w fun e w' => e = .returned (.string (mk l)) ∧ Below B w w' := Tryz.Builder_String_any B b l w h hB
/-- the first y edges of a state -/
def lineS (acts : List ByteArray) (l : List Edg) (y : Nat) : List UInt8 := (l.take y).flatMap (edgeS acts)
theorem lineS_zero (acts : List ByteArray) (l : List Edg) : lineS acts l 0 = [] := rfl
theorem lineS_all (acts : List ByteArray) (l : List Edg) : lineS acts l l.length = l.flatMap (edgeS acts) := by unfold lineS; rw [List.take_length]
theorem lineS_next (acts : List ByteArray) (l : List Edg) (y : Nat) (h : y < l.length) : lineS acts l (y + 1) = lineS acts l y ++ edgeS acts (edAt l y) := by
  unfold lineS
  rw [take_next l y (0, 0) h, List.flatMap_append, List.flatMap_singleton]
  rfl
theorem lineS_len {m : Syst} (h : sysB m = true) {x : Nat} (hx : x < m.states.length) (y : Nat) : (lineS m.acts (stAt m.states x) y).length ≤ 17200000 := by
  have hs := (sysB_iff m).1 h
  have h1 := flat_len hs.1 (ns := m.states.length) (by omega) ((stAt m.states x).take y) (fun e he => row_ok h hx e (List.mem_of_mem_take he))
  have h3 := total_take m.states x hx
  have h4 := total_take_le m.states (x + 1)
  have h5 : ((stAt m.states x).take y).length ≤ (stAt m.states x).length := by rw [List.length_take]; omega
  unfold lineS
  omega
theorem bld_fresh {w : World} {B : Nat} (h : Whole w B 154 #[.pointer none, .slice none 0 0]) : Bld B B [] w := Or.inl ⟨Nat.le_refl _, .slice none 0 0, h, World.ownsRow_nil _ _ _ _, by simp [Value.ownBlock]⟩

set_option maxRecDepth 100000 in
set_option maxHeartbeats 4000000 in
theorem line_any {w : World} {a : Option Addr} {n c : Nat} {b : Option Addr} {k d : Nat} {m : Syst} {g x ni ci : Nat} {ai : Option Addr} (E : Env w) (A : SysArg w a n c b k d m) (hv : sysB m = true)
    (hg : Whole w g 25 #[.slice a n c, .slice b k d]) (hx : x < m.states.length) (hE : EdgeArg w ai ni ci (stAt m.states x)) :
    Calls Tryz.prog 87 #[.slice ai ni ci, .pointer (some ⟨g, 0, none⟩)] w fun e w' => e = .returned (.string (mk ((stAt m.states x).flatMap (edgeS m.acts)))) ∧ Below w.heap.size w w' := by
  have HA := Lib.hid A
  have HE := Lib.hid E
  have HS := Lib.hid hv
  have HX := Lib.hid hx
  have HEd := Lib.hid hE
  have hn8 : n ≤ 8 := by have := ((actsB_iff m.acts).1 ((sysB_iff m).1 hv).1).1; have := A.acts.len; omega
  have hk5 : k ≤ 5000 := by have := ((sysB_iff m).1 hv).2.2.1; have := A.len; omega
  have hni : ni ≤ 400000 := by
    have h3 := hE.len
    have h4 := total_take m.states x hx
    have h5 := total_take_le m.states (x + 1)
    have := ((sysB_iff m).1 hv).2.2.2.2
    omega
  have q0 := hg.cell 0
  simp only [List.getElem?_toArray, List.getElem?_cons_zero] at q0
  have hgl := hg.lt
  have b0 := bld_fresh (Whole.new w 154 #[.pointer none, .slice none 0 0])
  have hB1 : Below w.heap.size w (w.alloc (.cells #[.pointer none, .slice none 0 0] 154)) := (Below.refl _ w).alloc (Nat.le_refl _) _
  have HB0 := Lib.hid b0
  have HB1 := Lib.hid hB1
  clear E A hv hg hx hE b0 hB1
  go_enter Tryz.func87, Tryz.ntmps87
  go_wp2
  go_loopw [6, 9] (fun _ i wr => ∃ y : Nat, y ≤ ni ∧ i = .int .i64 y ∧ Bld w.heap.size w.heap.size (lineS m.acts (stAt m.states x) y) wr ∧ Below w.heap.size w wr) (fun _ i _ => ni - (intOf i).toNat)
  case atStart => exact ⟨0, Nat.zero_le _, rfl, HB0.out, HB1.out⟩
  case round =>
    obtain ⟨y, hy, rfl, hBy, hby⟩ := hrel
    have HBy := Lib.hid hBy
    have Hby := Lib.hid hby
    have hzy := hby.size
    have o1 : wr.cell? ⟨g, 0, none⟩ = some (.slice a n c) := (hby.cell hgl).trans q0
    clear hBy hby
    by_cases hlt3 : y < ni
    · obtain ⟨be, oe, rfl, d1, d2⟩ := (HEd.out.cells.below Hby.out) y (by have := HEd.out.len; omega)
      have hok : okE m.acts.length m.states.length (edAt (stAt m.states x) y) = true := by
        have h3 := (edgesB_iff _ _ _).1 (((sysB_iff m).1 HS.out).2.2.2.1 x HX.out) y (by have := HEd.out.len; omega)
        unfold edgeB at h3
        rw [Bool.and_eq_true] at h3
        exact h3.1
      have hok2 := (okE_iff _ _ _).1 hok
      obtain ⟨u, hu⟩ := Int.eq_ofNat_of_zero_le hok2.1
      obtain ⟨v, hv⟩ := Int.eq_ofNat_of_zero_le hok2.2.2.1
      have hu8 : u < n := by have := HA.out.acts.len; omega
      have hvk : v < k := by have := HA.out.len; omega
      obtain ⟨ba, oa, rfl, a0⟩ := HA.out.acts.cells u (by have := HA.out.acts.len; omega)
      obtain ⟨z, HZ⟩ : ∃ z, Hid (at_ m.acts u = z) := ⟨_, Lib.hid rfl⟩
      change w.cell? _ = some (.string (at_ m.acts u)) at a0
      rw [HZ.out] at a0
      have a1 := (Hby.out.cell (lt_of_cell a0)).trans a0
      rw [hu] at d1
      rw [hv] at d2
      have hzs : z.size ≤ 20 := by
        have := nm_len ((sysB_iff m).1 HS.out).1 (k := u) (by have := HA.out.acts.len; omega)
        rw [HZ.out] at this
        rw [Lib.size_eq]; exact this
      obtain ⟨D2, HD2⟩ : ∃ D, Hid (mk (Lib.decDigits v) = D) := ⟨_, Lib.hid rfl⟩
      have hD2 : D2.size ≤ 21 := by rw [← HD2.out, mk_size']; exact dec_length v (by omega)
      have hsp : (⟨#[32]⟩ : ByteArray).size = 1 := rfl
      have HN2 : Hid (lineS m.acts (stAt m.states x) y ++ ((⟨#[32]⟩ : ByteArray) ++ z ++ (⟨#[32]⟩ : ByteArray) ++ D2).data.toList = lineS m.acts (stAt m.states x) (y + 1)) := Lib.hid (by
        rw [lineS_next m.acts _ y (by have := HEd.out.len; omega)]
        unfold edgeS nmS
        rw [hu, hv, ← HD2.out]
        simp only [Int.toNat_natCast]
        rw [HZ.out]
        simp [ByteArray.data_append, mk])
      have HL2 := Lib.hid (lineS_len HS.out HX.out y)
      have HBo := Lib.hid (fun o : Obj => HBy.out.up ((Below.refl _ wr).alloc (Nat.le_refl _) o))
      have HEr := Lib.hid (HE.out.below Hby.out)
      have hu0 : (0 : Int) ≤ (u : Int) := by omega
      have hu1 : (u : Int) < n := by omega
      have zz0 : g < wr.heap.size := lt_of_cell o1
      have zz1 : ba < wr.heap.size := lt_of_cell a1
      have zz2 : ba < w.heap.size := lt_of_cell a0
      have zz5 : w.heap.size < wr.heap.size := bld_lt HBy.out
      clear hok hok2 hu hv a0
      go_wp2
      have hadd1 : ¬ 9223372036854775807 < (⟨#[32]⟩ : ByteArray).size + z.size := by omega
      have hadd2 : ¬ 9223372036854775807 < ((⟨#[32]⟩ : ByteArray) ++ z).size + (⟨#[32]⟩ : ByteArray).size := by rw [ByteArray.size_append]; omega
      have hadd3 : ¬ 9223372036854775807 < ((⟨#[32]⟩ : ByteArray) ++ z ++ (⟨#[32]⟩ : ByteArray)).size + D2.size := by rw [ByteArray.size_append, ByteArray.size_append]; omega
      have hadd4 : ¬ 9223372036854775807 < 1 + z.size := by omega
      have hadd5 : ¬ 9223372036854775807 < 1 + z.size + 1 := by omega
      have hadd6 : ¬ 9223372036854775807 < 1 + z.size + 1 + D2.size := by omega
      have hadd7 : ¬ 9223372036854775807 < ((⟨#[32]⟩ : ByteArray) ++ z).size + 1 := by rw [ByteArray.size_append]; omega
      go_region_held3 (fun w' => Whole w' wr.heap.size 87 #[.int .i64 u, .int .i64 v] ∧ w'.cell? ⟨wr.heap.size, 0, none⟩ = some (.int .i64 u) ∧ w'.cell? ⟨wr.heap.size, 1, none⟩ = some (.int .i64 v) ∧ w'.cell? ⟨g, 0, none⟩ = some (.slice (some ⟨ba, oa, none⟩) n c) ∧ w'.cell? ⟨ba, oa + u, none⟩ = some (.string z))
        ((refine pack_e ?_ ?_ ?_ <;> first | assumption | exact Whole.new _ _ _ | go_keep))
        (first
          | (go_at_call 83; (refine (itoa_any v (by omega) _ (HEr.out.below ?_)).mono ?_; (first | exact ((Below.refl _ _).alloc (Nat.le_refl _) _).drew | exact ((Below.refl _ _).alloc (Nat.le_refl _) _)); rw [HD2.out]; rintro e wJ ⟨rfl, hbJ⟩; have kI0 := up_whole hbJ (show Whole _ wr.heap.size 87 #[.int .i64 u, .int .i64 v] from Whole.new wr _ _); have kI1 := up_cell (p := ⟨g, 0, none⟩) hbJ (cell_new o1 _); have kI2 := up_cell (p := ⟨ba, oa + u, none⟩) hbJ (cell_new a1 _); have kIz := hbJ.size))
          | (go_at_call 82; (refine (write_any w.heap.size w.heap.size (lineS m.acts (stAt m.states x) y) ((⟨#[32]⟩ : ByteArray) ++ z ++ (⟨#[32]⟩ : ByteArray) ++ D2) _ (up_bld hbJ (HBo.out (.cells #[.int .i64 u, .int .i64 v] 87))) ?_ ?_).mono ?_; (simp only [ByteArray.size_append]; have := HL2.out; omega); (simp at kIz; omega); rw [HN2.out]; rintro e wK ⟨rfl, hBK, hbK, hkK⟩; have kK0 := hkK wr.heap.size _ _ (by omega) (by decide) kI0; have kK1 := (hbK.cell (p := ⟨g, 0, none⟩) hgl).trans kI1; have kK2 := (hbK.cell (p := ⟨ba, oa + u, none⟩) zz2).trans kI2)))
      go_wp2
      go_roundw
      case rel =>
        have hbw : Below wr.heap.size wr wJ := by
          first
            | exact below_two ((Below.refl _ wr).alloc (Nat.le_refl _) (.cells #[.int .i64 u, .int .i64 v] 87)) hbJ
            | exact below_two ((Below.refl _ wr).alloc (Nat.le_refl _) (.cells #[.int .i64 u, .int .i64 v] 87)).drew hbJ
        exact ⟨y + 1, by omega, by go_num, hBK, (Hby.out.trans (hbw.mono hzy)).trans hbK⟩
      case measure => simp [intOf]; omega
    · have HN3 : Hid (lineS m.acts (stAt m.states x) y = (stAt m.states x).flatMap (edgeS m.acts)) := Lib.hid (by
        have h3 : y = (stAt m.states x).length := by have := HEd.out.len; omega
        rw [h3]; exact lineS_all _ _)
      have hBe := HBy.out
      rw [HN3.out] at hBe
      have HSt := Lib.hid (bstr_any w.heap.size w.heap.size _ wr hBe hzy)
      clear hBe
      go_wp2_with fail
      refine HSt.out.mono ?_
      rintro e w7 ⟨rfl, hb7⟩
      go_wp2
      go_ret
      exact ⟨rfl, Hby.out.trans hb7⟩
end Go.Proofs.YtgnbkepdbdgkdaaGreatDoor
/- terms.Text, as system.String calls it. -/
namespace Go.Proofs.YtgnbkepdbdgkdaaGreatDoor
open Go.RowKit Pl

/-- a call of strings.Join with blanks, at a row of the call's own that is not empty -/
theorem join_own {W : World} {base N : Nat} {v : Value} (x : ByteArray) (xs : List ByteArray) (h : W.ownsRow base 9 1 v N ((x :: xs).map Value.string)) (hN : N = xs.length + 1) (hN8 : N ≤ 1000000) (hl : (Lib.join ((x :: xs).map (·.data.toList)) [32]).length ≤ 140737488355328) :
    Calls Tryz.prog 113 #[v, .string ⟨#[32]⟩] W fun e w' => e = .returned (.string (mk (Lib.join ((x :: xs).map (·.data.toList)) [32]))) ∧ Below W.heap.size W w' := by
  rcases h.2 with ⟨rfl, h0⟩ | ⟨g, cap, cur, rfl, hg, hh, hn, hcap, hsz, ht⟩
  · omega
  · have hj := Tryz.strings_Join g 0 cap (x :: xs) ⟨#[32]⟩ W ?_ ?_ ?_ ?_ ?_
    · rw [List.length_cons, ← hN] at hj
      exact hj
    · intro j y hy
      have h9 := h.cells rfl j (.string y) (by rw [List.getElem?_map, hy]; rfl)
      rw [add_plainly, Nat.zero_add] at h9
      rw [Nat.zero_add]
      exact h9
    · exact (Array.getElem?_eq_some_iff.1 hh).1
    · rw [List.length_cons]; omega
    · rw [List.length_cons]; omega
    · exact hl
theorem join_head (kw : List UInt8) (acts : List ByteArray) : Lib.join ((mk kw :: acts).map (·.data.toList)) [32] = kw ++ acts.flatMap (fun a => [32] ++ a.data.toList) := by
  rw [List.map_cons, join_flat, List.flatMap_map]
  simp [mk]

/-- where Text stands behind x states -/
def textX (m : Syst) (x : Nat) : List UInt8 := strK m x
theorem textX_next (m : Syst) (x : Nat) : textX m (x + 1) = textX m x ++ ((Lib.decDigits x ++ [58] ++ (stAt m.states x).flatMap (edgeS m.acts)) ++ [10]) := strK_next m x
theorem textX_len {m : Syst} (h : sysB m = true) {x : Nat} (hx : x ≤ m.states.length) : (textX m x).length ≤ 20000000 := by
  have h0 := strK_len h x hx
  have h4 := total_take_le m.states x
  have := (sysB_iff m).1 h
  unfold textX
  omega

set_option maxRecDepth 100000 in
set_option maxHeartbeats 4000000 in
theorem TText_any {w : World} {a : Option Addr} {n c : Nat} {b : Option Addr} {k d : Nat} {m : Syst} {g : Nat} (kw : ByteArray) (hkw : kw = mk bSystem) (E : Env w) (A : SysArg w a n c b k d m) (hv : sysB m = true)
    (hg : Whole w g 25 #[.slice a n c, .slice b k d]) :
    Calls Tryz.prog 86 #[.string kw, .slice a n c, .slice b k d, .func (.func 87) #[] #[.pointer (some ⟨g, 0, none⟩)]] w fun e w' => e = .returned (.string (mk (strS m))) ∧ Below w.heap.size w w' := by
  obtain ⟨i0, hi, hz0, hz1, hz2⟩ := info_parts infoString
  have HA := Lib.hid A
  have HE := Lib.hid E
  have HS := Lib.hid hv
  have HG := Lib.hid hg
  have hs := (sysB_iff m).1 hv
  have hn8 : n ≤ 8 := by have := ((actsB_iff m.acts).1 hs.1).1; have := A.acts.len; omega
  have hk5 : k ≤ 5000 := by have := A.len; omega
  have HKW := Lib.hid hkw
  have hB1 := (Below.refl w.heap.size w).alloc (Nat.le_refl _) (.cells #[.pointer none, .slice none 0 0] 154)
  have hB2 := hB1.alloc (by simp) (.cells #[.string kw] 9)
  have hw0 := (Whole.new w 154 #[.pointer none, .slice none 0 0]).alloc (.cells #[.string kw] 9)
  have hlit := World.ownsRow_lit (base := w.heap.size) (e := 9) (size := 1) (w.alloc (.cells #[.pointer none, .slice none 0 0] 154)) #[.string kw] 1 (by simp) (by unfold maxLen; omega) rfl
  simp only [World.size_alloc] at hlit
  have HSrc := Lib.hid (strs_src (A.acts.below hB2))
  have HNil := Lib.hid A.acts.nils
  have HL : Hid ((m.acts.map Value.string).length = n * 1) := Lib.hid (by have := A.acts.len; simp; omega)
  have HB2 := Lib.hid hB2
  have HW0 := Lib.hid hw0
  have HLit := Lib.hid hlit
  clear hs A E hv hg hkw hB1 hB2 hw0 hlit
  go_enter Tryz.func86, Tryz.ntmps86
  go_wp2_with (at_builtin; (refine wpList_append_sz rfl (.tmp 13) (.tmp 14) 22 rfl w.heap.size 9 i0 (.string ⟨#[]⟩) 1 16 Tryz.underlying22 hi hz0 hz1 hz2 rfl (by decide) (.slice (some ⟨w.heap.size + 1, 0, none⟩) 1 1) rfl 1 [.string kw] HLit.out a n c rfl (m.acts.map Value.string) HNil.out HL.out HSrc.out (strs_one _) (by unfold maxLen; omega) (by omega) (by simp; omega) ?_); intro va w1 hva hg1 hat1; refine Hid.out ?_)
  refine Lib.hid ?_
  obtain ⟨aa, ca, rfl⟩ := own_slice hva
  have hb1 := HB2.out.grown hg1 (by simp; omega) (fun k hk => by simp [Value.ownBlock] at hk; omega)
  have x0 := HW0.out.grown hg1 (fun h => by simp [Value.ownBlock] at h)
  have HJ := Lib.hid (join_own (W := w1) kw m.acts (by have e : [Value.string kw] ++ m.acts.map Value.string = (kw :: m.acts).map Value.string := rfl; rw [← e]; exact hva) (by have := HA.out.acts.len; omega) (by omega) (by
    rw [HKW.out, join_head]
    have := headP_len ((sysB_iff m).1 HS.out).1 m.acts.length
    unfold headP at this
    rw [List.take_length] at this
    omega))
  have HBd := Lib.hid (bld_fresh x0)
  have HB1 := Lib.hid hb1
  have hzz1 := hb1.size
  have hx0l := x0.lt
  rw [HKW.out, join_head] at HJ
  clear hva hg1 hat1 hb1 x0
  obtain ⟨J, HJe⟩ : ∃ J, Hid (mk (bSystem ++ m.acts.flatMap (fun a => [32] ++ a.data.toList)) = J) := ⟨_, Lib.hid rfl⟩
  rw [HJe.out] at HJ
  have HJl : Hid (J.size ≤ 200) := Lib.hid (by
    rw [← HJe.out, mk_size']
    have := headP_len ((sysB_iff m).1 HS.out).1 m.acts.length
    unfold headP at this
    rwa [List.take_length] at this)
  have hJl := HJl.out
  have hnl : (⟨#[10]⟩ : ByteArray).size = 1 := rfl
  go_wp2_with fail
  refine HJ.out.mono ?_
  rintro e w2 ⟨rfl, hb2⟩
  have HWr := Lib.hid (write_any w.heap.size w.heap.size [] (J ++ (⟨#[10]⟩ : ByteArray)) w2 (HBd.out.up hb2) (by rw [ByteArray.size_append]; simp; omega) (Nat.le_trans hzz1 hb2.size))
  have HN0 : Hid ([] ++ (J ++ (⟨#[10]⟩ : ByteArray)).data.toList = textX m 0) := Lib.hid (by
    rw [← HJe.out]
    simp [ByteArray.data_append, mk, textX, strK, headS])
  rw [HN0.out] at HWr
  have HB2' := Lib.hid (HB1.out.trans (hb2.mono hzz1))
  clear hb2
  have hadd0 : ¬ 9223372036854775807 < J.size + 1 := by omega
  have hadd0' : ¬ 9223372036854775807 < J.size + (⟨#[10]⟩ : ByteArray).size := by omega
  go_wp2_with fail
  refine HWr.out.mono ?_
  rintro e w3 ⟨rfl, hB3, hb3, hk3⟩
  have HB3 := Lib.hid hB3
  have Hb3 := Lib.hid (HB2'.out.trans hb3)
  clear hB3 hb3 hk3 hadd0 hadd0'
  go_wp2
  go_loopw [10, 11, 21] (fun _ _ i wr => ∃ x : Nat, x ≤ k ∧ i = .int .i64 x ∧ Bld w.heap.size w.heap.size (textX m x) wr ∧ Below w.heap.size w wr) (fun _ _ i _ => k - (intOf i).toNat)
  case atStart => exact ⟨0, Nat.zero_le _, rfl, HB3.out, Hb3.out⟩
  case round =>
    obtain ⟨x, hx, rfl, hBx, hbx⟩ := hrel
    have HBx := Lib.hid hBx
    have Hbx := Lib.hid hbx
    have hzx := hbx.size
    clear hBx hbx
    by_cases hlt2 : x < k
    · obtain ⟨bx2, off2, rfl, ai, ni, ci, c0, hE⟩ := HA.out.rows x (by have := HA.out.len; omega)
      have c1 : wr.cell? ⟨bx2, off2 + x, none⟩ = some (.slice ai ni ci) := (Hbx.out.cell (lt_of_cell c0)).trans c0
      clear c0
      have HEd := Lib.hid hE
      clear hE
      have HI := Lib.hid (itoa_any x (by omega) wr (HE.out.below Hbx.out))
      obtain ⟨D, HD⟩ : ∃ D, Hid (mk (Lib.decDigits x) = D) := ⟨_, Lib.hid rfl⟩
      rw [HD.out] at HI
      have hD : D.size ≤ 21 := by rw [← HD.out, mk_size']; exact dec_length x (by omega)
      have hcol : (⟨#[58]⟩ : ByteArray).size = 1 := rfl
      obtain ⟨Ls, HLs⟩ : ∃ Ls, Hid (mk ((stAt m.states x).flatMap (edgeS m.acts)) = Ls) := ⟨_, Lib.hid rfl⟩
      have hLs : Ls.size ≤ 17200000 := by
        rw [← HLs.out, mk_size', ← lineS_all]
        exact lineS_len HS.out (by have := HA.out.len; omega) _
      have HN : Hid (textX m x ++ (D ++ (⟨#[58]⟩ : ByteArray) ++ Ls ++ (⟨#[10]⟩ : ByteArray)).data.toList = textX m (x + 1)) := Lib.hid (by
        rw [textX_next, ← HD.out, ← HLs.out]
        simp [ByteArray.data_append, mk])
      have hTl := textX_len HS.out (x := x) (by have := HA.out.len; omega)
      have hadd1 : ¬ 9223372036854775807 < D.size + 1 := by omega
      have hadd2 : ¬ 9223372036854775807 < D.size + (⟨#[58]⟩ : ByteArray).size := by omega
      have hadd3 : ¬ 9223372036854775807 < (D ++ (⟨#[58]⟩ : ByteArray)).size + Ls.size := by rw [ByteArray.size_append]; omega
      have hadd4 : ¬ 9223372036854775807 < (D ++ (⟨#[58]⟩ : ByteArray) ++ Ls).size + 1 := by rw [ByteArray.size_append, ByteArray.size_append]; omega
      have hadd5 : ¬ 9223372036854775807 < (D ++ (⟨#[58]⟩ : ByteArray) ++ Ls).size + (⟨#[10]⟩ : ByteArray).size := by rw [ByteArray.size_append, ByteArray.size_append]; omega
      have hadd6 : ¬ 9223372036854775807 < D.size + 1 + Ls.size := by omega
      have hadd7 : ¬ 9223372036854775807 < D.size + 1 + Ls.size + 1 := by omega
      go_wp2_with fail
      refine HI.out.mono ?_
      rintro e wI ⟨rfl, hbI⟩
      have hzI := hbI.size
      have HTI := Lib.hid (Hbx.out.trans (hbI.mono hzx))
      have HLi := line_any (x := x) (HE.out.below HTI.out) (HA.out.below HTI.out) HS.out (HG.out.below HTI.out HG.out.lt) (by have := HA.out.len; omega) (HEd.out.below HTI.out)
      rw [HLs.out] at HLi
      have HLi := Lib.hid HLi
      have HbI := Lib.hid hbI
      clear hbI
      go_wp2_with fail
      refine HLi.out.mono ?_
      rintro e wL ⟨rfl, hbL⟩
      have hzL := hbL.size
      have HWr2 := Lib.hid (write_any w.heap.size w.heap.size (textX m x) (D ++ (⟨#[58]⟩ : ByteArray) ++ Ls ++ (⟨#[10]⟩ : ByteArray)) wL ((HBx.out.up HbI.out).up hbL) (by simp only [ByteArray.size_append]; omega) (by omega))
      rw [HN.out] at HWr2
      have HTL := Lib.hid (HTI.out.trans (hbL.mono HTI.out.size))
      clear hbL
      go_wp2_with fail
      refine HWr2.out.mono ?_
      rintro e wW ⟨rfl, hBW, hbW, hkW⟩
      have HBW := Lib.hid hBW
      have HbW := Lib.hid (HTL.out.trans hbW)
      clear hBW hbW hkW hadd1 hadd2 hadd3 hadd4 hadd5 hadd6 hadd7
      go_wp2
      go_roundw
      case rel => exact ⟨x + 1, by omega, by go_num, HBW.out, HbW.out⟩
      case measure => simp [intOf]; omega
    · have HN4 : Hid (textX m x = strS m) := Lib.hid (by
        have h3 : x = m.states.length := by have := HA.out.len; omega
        rw [h3]; rfl)
      have hBx := HBx.out
      rw [HN4.out] at hBx
      have HSt := Lib.hid (bstr_any w.heap.size w.heap.size (strS m) wr hBx hzx)
      clear hBx
      go_wp2_with fail
      refine HSt.out.mono ?_
      rintro e w7 ⟨rfl, hb7⟩
      go_wp2
      go_ret
      exact ⟨rfl, Hbx.out.trans hb7⟩
end Go.Proofs.YtgnbkepdbdgkdaaGreatDoor
/- system.String. -/
namespace Go.Proofs.YtgnbkepdbdgkdaaGreatDoor
open Go.RowKit Pl

def sstrV (m : Syst) : Value := if sysB m = true then .tuple #[.string (mk (strS m)), .int .i64 0] else .tuple #[.string ⟨#[]⟩, .int .i64 20]
theorem sstrV_no {m : Syst} (h : sysB m = false) : sstrV m = .tuple #[.string ⟨#[]⟩, .int .i64 20] := by unfold sstrV; rw [h]; rfl
theorem sstrV_yes {m : Syst} (h : sysB m = true) : sstrV m = .tuple #[.string (mk (strS m)), .int .i64 0] := if_pos h
set_option maxRecDepth 100000 in
set_option maxHeartbeats 4000000 in
theorem SString_any {w : World} {a : Option Addr} {n c : Nat} {b : Option Addr} {k d : Nat} {m : Syst} (E : Env w) (A : SysArg w a n c b k d m) :
    Calls Tryz.prog 36 #[.agg #[.slice a n c, .slice b k d]] w fun e w' => e = .returned (sstrV m) ∧ Below w.heap.size w w' := by
  have hB := (Below.refl w.heap.size w).alloc (Nat.le_refl _) (.cells #[.slice a n c, .slice b k d] 25)
  have HA := Lib.hid A
  have HE := Lib.hid E
  have hw := Whole.new w 25 #[.slice a n c, .slice b k d]
  obtain ⟨e0, e1, e2, hE⟩ := E.errs
  have HC := Lib.hid (SCheck_any (hE.below hB) (A.below hB))
  have HBB := Lib.hid hB
  have HW := Lib.hid hw
  clear A hB E hE hw
  have hmf : ∀ (fn : Fn) (first cap : Array Value) (w : World), (Instr.makeFunc fn first cap).run Tryz.prog w = .ok (.func fn first cap) w := fun _ _ _ _ => rfl
  cases hv : sysB m
  · have HV := Lib.hid (sstrV_no hv)
    rw [chk_no hv] at HC
    clear hv
    go_enter Tryz.func36, Tryz.ntmps36
    go_wp2_with fail
    refine HC.out.mono ?_
    rintro e w1 ⟨rfl, hb1⟩
    go_wp2
    go_ret2
    exact ⟨by rw [HV.out]; rfl, HBB.out.trans (hb1.mono HBB.out.size)⟩
  · have HV := Lib.hid (sstrV_yes hv)
    rw [chk_yes hv] at HC
    have HS := Lib.hid hv
    clear hv
    go_enter Tryz.func36, Tryz.ntmps36
    go_wp2_with fail
    refine HC.out.mono ?_
    rintro e w1 ⟨rfl, hb1⟩
    have hb0 := HBB.out.trans (hb1.mono HBB.out.size)
    have hw1 := HW.out.below hb1 HW.out.lt
    have q0 := hw1.cell 0
    have q1 := hw1.cell 1
    have HT := Lib.hid (TText_any ⟨#[115, 121, 115, 116, 101, 109]⟩ rfl (HE.out.below hb0) (HA.out.below hb0) HS.out hw1)
    have HB0 := Lib.hid hb0
    simp only [List.getElem?_toArray, List.getElem?_cons_succ, List.getElem?_cons_zero] at q0 q1
    clear hb0 hb1 hw1
    go_wp2_with fail
    refine HT.out.mono ?_
    rintro e w2 ⟨rfl, hb2⟩
    go_wp2
    go_ret2
    exact ⟨by rw [HV.out]; rfl, HB0.out.trans (hb2.mono HB0.out.size)⟩
end Go.Proofs.YtgnbkepdbdgkdaaGreatDoor
