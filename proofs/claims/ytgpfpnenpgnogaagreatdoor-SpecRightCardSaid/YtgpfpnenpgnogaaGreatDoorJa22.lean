/- Texts joined: Line. -/
import Derived.Test.YtgpfpnenpgnogaaGreatDoorJa15
import Derived.Deep.RegionHeld3
/- The edges of a state, as system.String writes them behind the state's number. -/
namespace Go.Proofs.YtgpfpnenpgnogaaGreatDoor
open Go.RowKit Pl

theorem pack_e {w : World} {g g1 g2 o1 o2 : Nat} {t : TypeId} {x y v1 v2 : Value} (h : Whole w g t #[x, y]) (h1 : w.cell? ⟨g1, o1, none⟩ = some v1) (h2 : w.cell? ⟨g2, o2, none⟩ = some v2) :
    Whole w g t #[x, y] ∧ w.cell? ⟨g, 0, none⟩ = some x ∧ w.cell? ⟨g, 1, none⟩ = some y ∧ w.cell? ⟨g1, o1, none⟩ = some v1 ∧ w.cell? ⟨g2, o2, none⟩ = some v2 := ⟨h, h.cell 0, h.cell 1, h1, h2⟩
theorem up_bld {W w' : World} {B b : Nat} {l : List UInt8} (hb : Below W.heap.size W w') (h : Bld B b l W) : Bld B b l w' := h.up hb
theorem bld_lt {W : World} {B b : Nat} {l : List UInt8} (h : Bld B b l W) : b < W.heap.size := by
  rcases h with h | h
  · exact h.lt
  · exact h.lt
theorem below_two {a b c : World} (h : Below a.heap.size a b) (k : Below b.heap.size b c) : Below a.heap.size a c := h.trans (k.mono h.size)
theorem bstr_any (B b : Nat) (l : List UInt8) (w : World) (h : Bld B b l w) (hB : B ≤ w.heap.size) :
    Calls Tryz.prog 68 #[.pointer (some ⟨b, 0, none⟩)] w fun e w' => e = .returned (.string (mk l)) ∧ Below B w w' := Tryz.Builder_String_any B b l w h hB
/-- the first y edges of a state -/
def lineS (acts : List ByteArray) (l : List Edg) (y : Nat) : List UInt8 := (l.take y).flatMap (edgeS acts)
theorem lineS_zero (acts : List ByteArray) (l : List Edg) : lineS acts l 0 = [] := rfl
theorem lineS_all (acts : List ByteArray) (l : List Edg) : lineS acts l l.length = l.flatMap (edgeS acts) := by unfold lineS; rw [List.take_length]
theorem lineS_next (acts : List ByteArray) (l : List Edg) (y : Nat) (h : y < l.length) : lineS acts l (y + 1) = lineS acts l y ++ edgeS acts (edAt l y) := by
  unfold lineS
  rw [take_next l y (0, 0) h, List.flatMap_append, List.flatMap_singleton]
  rfl
theorem lineS_len {m : Syst} (h : sysB m = true) {x : Nat} (hx : x < m.states.length) (y : Nat) : (lineS m.acts (stAt m.states x) y).length ≤ 17200000 := by
  have hs := (sysB_iff m).1 h
  have h1 := flat_len hs.1 (ns := m.states.length) (by omega) ((stAt m.states x).take y) (fun e he => row_ok h hx e (List.mem_of_mem_take he))
  have h3 := total_take m.states x hx
  have h4 := total_take_le m.states (x + 1)
  have h5 : ((stAt m.states x).take y).length ≤ (stAt m.states x).length := by rw [List.length_take]; omega
  unfold lineS
  omega
theorem bld_fresh {w : World} {B : Nat} (h : Whole w B 126 #[.pointer none, .slice none 0 0]) : Bld B B [] w := Or.inl ⟨Nat.le_refl _, .slice none 0 0, h, World.ownsRow_nil _ _ _ _, by simp [Value.ownBlock]⟩

set_option maxRecDepth 100000 in
set_option maxHeartbeats 4000000 in
theorem line_any {w : World} {a : Option Addr} {n c : Nat} {b : Option Addr} {k d : Nat} {m : Syst} {g x ni ci : Nat} {ai : Option Addr} (E : Env w) (A : SysArg w a n c b k d m) (hv : sysB m = true)
    (hg : Whole w g 25 #[.slice a n c, .slice b k d]) (hx : x < m.states.length) (hE : EdgeArg w ai ni ci (stAt m.states x)) :
    Calls Tryz.prog 84 #[.slice ai ni ci, .pointer (some ⟨g, 0, none⟩)] w fun e w' => e = .returned (.string (mk ((stAt m.states x).flatMap (edgeS m.acts)))) ∧ Below w.heap.size w w' := by
  have HA := Lib.hid A
  have HE := Lib.hid E
  have HS := Lib.hid hv
  have HX := Lib.hid hx
  have HEd := Lib.hid hE
  have hn8 : n ≤ 8 := by have := ((actsB_iff m.acts).1 ((sysB_iff m).1 hv).1).1; have := A.acts.len; omega
  have hk5 : k ≤ 5000 := by have := ((sysB_iff m).1 hv).2.2.1; have := A.len; omega
  have hni : ni ≤ 400000 := by
    have h3 := hE.len
    have h4 := total_take m.states x hx
    have h5 := total_take_le m.states (x + 1)
    have := ((sysB_iff m).1 hv).2.2.2.2
    omega
  have q0 := hg.cell 0
  simp only [List.getElem?_toArray, List.getElem?_cons_zero] at q0
  have hgl := hg.lt
  have b0 := bld_fresh (Whole.new w 126 #[.pointer none, .slice none 0 0])
  have hB1 : Below w.heap.size w (w.alloc (.cells #[.pointer none, .slice none 0 0] 126)) := (Below.refl _ w).alloc (Nat.le_refl _) _
  have HB0 := Lib.hid b0
  have HB1 := Lib.hid hB1
  clear E A hv hg hx hE b0 hB1
  go_enter Tryz.func84, Tryz.ntmps84
  go_wp2
  go_loopw [6, 9] (fun _ i wr => ∃ y : Nat, y ≤ ni ∧ i = .int .i64 y ∧ Bld w.heap.size w.heap.size (lineS m.acts (stAt m.states x) y) wr ∧ Below w.heap.size w wr) (fun _ i _ => ni - (intOf i).toNat)
  case atStart => exact ⟨0, Nat.zero_le _, rfl, HB0.out, HB1.out⟩
  case round =>
    obtain ⟨y, hy, rfl, hBy, hby⟩ := hrel
    have HBy := Lib.hid hBy
    have Hby := Lib.hid hby
    have hzy := hby.size
    have o1 : wr.cell? ⟨g, 0, none⟩ = some (.slice a n c) := (hby.cell hgl).trans q0
    clear hBy hby
    by_cases hlt3 : y < ni
    · obtain ⟨be, oe, rfl, d1, d2⟩ := (HEd.out.cells.below Hby.out) y (by have := HEd.out.len; omega)
      have hok : okE m.acts.length m.states.length (edAt (stAt m.states x) y) = true := by
        have h3 := (edgesB_iff _ _ _).1 (((sysB_iff m).1 HS.out).2.2.2.1 x HX.out) y (by have := HEd.out.len; omega)
        unfold edgeB at h3
        rw [Bool.and_eq_true] at h3
        exact h3.1
      have hok2 := (okE_iff _ _ _).1 hok
      obtain ⟨u, hu⟩ := Int.eq_ofNat_of_zero_le hok2.1
      obtain ⟨v, hv⟩ := Int.eq_ofNat_of_zero_le hok2.2.2.1
      have hu8 : u < n := by have := HA.out.acts.len; omega
      have hvk : v < k := by have := HA.out.len; omega
      obtain ⟨ba, oa, rfl, a0⟩ := HA.out.acts.cells u (by have := HA.out.acts.len; omega)
      obtain ⟨z, HZ⟩ : ∃ z, Hid (at_ m.acts u = z) := ⟨_, Lib.hid rfl⟩
      change w.cell? _ = some (.string (at_ m.acts u)) at a0
      rw [HZ.out] at a0
      have a1 := (Hby.out.cell (lt_of_cell a0)).trans a0
      rw [hu] at d1
      rw [hv] at d2
      have hzs : z.size ≤ 20 := by
        have := nm_len ((sysB_iff m).1 HS.out).1 (k := u) (by have := HA.out.acts.len; omega)
        rw [HZ.out] at this
        rw [Lib.size_eq]; exact this
      obtain ⟨D2, HD2⟩ : ∃ D, Hid (mk (Lib.decDigits v) = D) := ⟨_, Lib.hid rfl⟩
      have hD2 : D2.size ≤ 21 := by rw [← HD2.out, mk_size']; exact dec_length v (by omega)
      have hsp : (⟨#[32]⟩ : ByteArray).size = 1 := rfl
      have HN2 : Hid (lineS m.acts (stAt m.states x) y ++ ((⟨#[32]⟩ : ByteArray) ++ z ++ (⟨#[32]⟩ : ByteArray) ++ D2).data.toList = lineS m.acts (stAt m.states x) (y + 1)) := Lib.hid (by
        rw [lineS_next m.acts _ y (by have := HEd.out.len; omega)]
        unfold edgeS nmS
        rw [hu, hv, ← HD2.out]
        simp only [Int.toNat_natCast]
        rw [HZ.out]
        simp [ByteArray.data_append, mk])
      have HL2 := Lib.hid (lineS_len HS.out HX.out y)
      have HBo := Lib.hid (fun o : Obj => HBy.out.up ((Below.refl _ wr).alloc (Nat.le_refl _) o))
      have HEr := Lib.hid (HE.out.below Hby.out)
      have hu0 : (0 : Int) ≤ (u : Int) := by omega
      have hu1 : (u : Int) < n := by omega
      have zz0 : g < wr.heap.size := lt_of_cell o1
      have zz1 : ba < wr.heap.size := lt_of_cell a1
      have zz2 : ba < w.heap.size := lt_of_cell a0
      have zz5 : w.heap.size < wr.heap.size := bld_lt HBy.out
      clear hok hok2 hu hv a0
      go_wp2
      have hadd1 : ¬ 9223372036854775807 < (⟨#[32]⟩ : ByteArray).size + z.size := by omega
      have hadd2 : ¬ 9223372036854775807 < ((⟨#[32]⟩ : ByteArray) ++ z).size + (⟨#[32]⟩ : ByteArray).size := by rw [ByteArray.size_append]; omega
      have hadd3 : ¬ 9223372036854775807 < ((⟨#[32]⟩ : ByteArray) ++ z ++ (⟨#[32]⟩ : ByteArray)).size + D2.size := by rw [ByteArray.size_append, ByteArray.size_append]; omega
      have hadd4 : ¬ 9223372036854775807 < 1 + z.size := by omega
      have hadd5 : ¬ 9223372036854775807 < 1 + z.size + 1 := by omega
      have hadd6 : ¬ 9223372036854775807 < 1 + z.size + 1 + D2.size := by omega
      have hadd7 : ¬ 9223372036854775807 < ((⟨#[32]⟩ : ByteArray) ++ z).size + 1 := by rw [ByteArray.size_append]; omega
      go_region_held3 (fun w' => Whole w' wr.heap.size 69 #[.int .i64 u, .int .i64 v] ∧ w'.cell? ⟨wr.heap.size, 0, none⟩ = some (.int .i64 u) ∧ w'.cell? ⟨wr.heap.size, 1, none⟩ = some (.int .i64 v) ∧ w'.cell? ⟨g, 0, none⟩ = some (.slice (some ⟨ba, oa, none⟩) n c) ∧ w'.cell? ⟨ba, oa + u, none⟩ = some (.string z))
        ((refine pack_e ?_ ?_ ?_ <;> first | assumption | exact Whole.new _ _ _ | go_keep))
        (first
          | (go_at_call 67; (refine (itoa_any v (by omega) _ (HEr.out.below ?_)).mono ?_; (first | exact ((Below.refl _ _).alloc (Nat.le_refl _) _).drew | exact ((Below.refl _ _).alloc (Nat.le_refl _) _)); rw [HD2.out]; rintro e wJ ⟨rfl, hbJ⟩; have kI0 := up_whole hbJ (show Whole _ wr.heap.size 69 #[.int .i64 u, .int .i64 v] from Whole.new wr _ _); have kI1 := up_cell (p := ⟨g, 0, none⟩) hbJ (cell_new o1 _); have kI2 := up_cell (p := ⟨ba, oa + u, none⟩) hbJ (cell_new a1 _); have kIz := hbJ.size))
          | (go_at_call 66; (refine (write_any w.heap.size w.heap.size (lineS m.acts (stAt m.states x) y) ((⟨#[32]⟩ : ByteArray) ++ z ++ (⟨#[32]⟩ : ByteArray) ++ D2) _ (up_bld hbJ (HBo.out (.cells #[.int .i64 u, .int .i64 v] 69))) ?_ ?_).mono ?_; (simp only [ByteArray.size_append]; have := HL2.out; omega); (simp at kIz; omega); rw [HN2.out]; rintro e wK ⟨rfl, hBK, hbK, hkK⟩; have kK0 := hkK wr.heap.size _ _ (by omega) (by decide) kI0; have kK1 := (hbK.cell (p := ⟨g, 0, none⟩) hgl).trans kI1; have kK2 := (hbK.cell (p := ⟨ba, oa + u, none⟩) zz2).trans kI2)))
      go_wp2
      go_roundw
      case rel =>
        have hbw : Below wr.heap.size wr wJ := by
          first
            | exact below_two ((Below.refl _ wr).alloc (Nat.le_refl _) (.cells #[.int .i64 u, .int .i64 v] 69)) hbJ
            | exact below_two ((Below.refl _ wr).alloc (Nat.le_refl _) (.cells #[.int .i64 u, .int .i64 v] 69)).drew hbJ
        exact ⟨y + 1, by omega, by go_num, hBK, (Hby.out.trans (hbw.mono hzy)).trans hbK⟩
      case measure => simp [intOf]; omega
    · have HN3 : Hid (lineS m.acts (stAt m.states x) y = (stAt m.states x).flatMap (edgeS m.acts)) := Lib.hid (by
        have h3 : y = (stAt m.states x).length := by have := HEd.out.len; omega
        rw [h3]; exact lineS_all _ _)
      have hBe := HBy.out
      rw [HN3.out] at hBe
      have HSt := Lib.hid (bstr_any w.heap.size w.heap.size _ wr hBe hzy)
      clear hBe
      go_wp2_with fail
      refine HSt.out.mono ?_
      rintro e w7 ⟨rfl, hb7⟩
      go_wp2
      go_ret
      exact ⟨rfl, Hby.out.trans hb7⟩
end Go.Proofs.YtgpfpnenpgnogaaGreatDoor
