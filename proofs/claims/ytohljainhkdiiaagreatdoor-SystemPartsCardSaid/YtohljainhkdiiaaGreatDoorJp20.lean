/- Texts joined: SpLine. -/
import Derived.Test.YtohljainhkdiiaaGreatDoorJp08
import Derived.Test.YtohljainhkdiiaaGreatDoorJp18
import Derived.Test.YtohljainhkdiiaaGreatDoorJp19
import Derived.Test.YtohljainhkdiiaaGreatDoorJp11
import Derived.Test.YtohljainhkdiiaaGreatDoorJp15
import Derived.Deep.RegionHeld3
/- The sets and the actions of a state, as spec.String writes them behind the state's number. -/
namespace Go.Proofs.YtohljainhkdiiaaGreatDoor
open Go.RowKit Pl

/-! ### how long they are -/
theorem blanks_len (M : Nat) : ∀ ws : List (List UInt8), (∀ x ∈ ws, x.length ≤ M) → (blanks ws).length ≤ (M + 1) * ws.length
  | [], _ => by simp [blanks]
  | x :: ws, h => by
    have h1 := h x (by simp)
    have h2 := blanks_len M ws (fun y hy => h y (by simp [hy]))
    unfold blanks at h2 ⊢
    rw [List.flatMap_cons, List.length_append, List.length_cons, List.length_cons, Nat.mul_succ]
    omega
theorem setSp_len {acts : List ByteArray} (ha : actsB acts = true) {y : Nat} (hy : y < 2 ^ acts.length) : (setS acts y).length ≤ 200 := by
  have h8 := ((actsB_iff acts).1 ha).1
  have h1 := join_bound 20 ((memL y).map fun k => (at_ acts k).data.toList) (fun x hx => by
    obtain ⟨k, hk, rfl⟩ := List.mem_map.1 hx
    exact nm_len ha ((memL_inc hy).1 k hk).2)
  have h2 : ((memL y).map fun k => (at_ acts k).data.toList).length ≤ 8 := by
    rw [List.length_map]
    unfold memL
    exact Nat.le_trans (List.length_filter_le _ _) (by simp)
  unfold setS
  simp only [List.length_append, List.length_cons, List.length_nil]
  have := Nat.mul_le_mul_left 21 h2
  omega
theorem rising_ge {acc next : List Int} (h : accB acc next = true) : ∀ i, i < acc.length → (i : Int) ≤ acc.getD i 0
  | 0, hi => by
    have := ((accB_iff _ _).1 h 0 hi).1
    rw [okSet_iff] at this
    exact this.1
  | i + 1, hi => by
    have ih := rising_ge h i (by omega)
    have h2 := ((accB_iff _ _).1 h (i + 1) hi).2
    unfold risB at h2
    rw [Bool.or_eq_true, decide_eq_true_eq, decide_eq_true_eq] at h2
    rcases h2 with h2 | h2
    · omega
    · rw [Nat.add_sub_cancel] at h2
      omega
theorem acc_few {na ns : Nat} {t : Ste} (h : steB na ns t = true) (h8 : na ≤ 8) (hx : ∀ x ∈ t.1, x ≤ 9223372036854775807) : t.1.length ≤ 256 := by
  have hf := (ste_facts h hx).2.1
  unfold steB at h
  rw [Bool.and_eq_true] at h
  have hr := rising_ge h.2
  rcases Nat.lt_or_ge 256 t.1.length with h1 | h1
  · exfalso
    have h2 := hr 256 h1
    have h3 := hf (t.1.getD 256 0) (by rw [List.getD_eq_getElem?_getD, List.getElem?_eq_getElem h1]; exact List.getElem_mem h1)
    have h4 : 2 ^ na ≤ 2 ^ 8 := Nat.pow_le_pow_right (by decide) h8
    omega
  · exact h1
theorem accW_words {acts : List ByteArray} (ha : actsB acts = true) {l : List Int} (hx : ∀ x ∈ l, 0 ≤ x ∧ x.toNat < 2 ^ acts.length) : ∀ x ∈ accW acts l, x.length ≤ 200 := fun x h => by
  obtain ⟨y, hy, rfl⟩ := List.mem_map.1 h
  exact setSp_len ha (hx y hy).2
theorem nxW_words {acts : List ByteArray} (ha : actsB acts = true) {next : List Int} {ns j : Nat} (hns : ns ≤ 500) (hn : next.length = acts.length) (hj : j ≤ next.length) (hr : ∀ j, j < next.length → -1 ≤ next.getD j 0 ∧ next.getD j 0 < ns) :
    (∀ x ∈ nxW acts next j, x.length ≤ 200) ∧ (nxW acts next j).length ≤ 2 * j := by
  constructor
  · intro x h
    obtain ⟨a, ha1, h⟩ := List.mem_flatMap.1 h
    rw [List.mem_range] at ha1
    have := hr a (by omega)
    unfold toW at h
    split at h
    · cases h
    · rcases List.mem_cons.1 h with rfl | h
      · exact Nat.le_trans (nm_len ha (by omega)) (by omega)
      · rw [List.mem_singleton] at h
        rw [h]
        exact Nat.le_trans (dec_length _ (by omega)) (by omega)
  · clear hj
    induction j with
    | zero => simp [nxW]
    | succ j ih =>
      rw [nxW_next, List.length_append]
      have : (toW acts next j).length ≤ 2 := by unfold toW; split <;> simp
      omega
/-- what is written behind j sets, and behind j actions -/
def lineA (acts : List ByteArray) (t : Ste) (j : Nat) : List UInt8 := blanks (accW acts (t.1.take j))
def lineB (acts : List ByteArray) (t : Ste) (j : Nat) : List UInt8 := blanks (accW acts t.1 ++ bArrow :: nxW acts t.2 j)
theorem lineA_zero (acts : List ByteArray) (t : Ste) : lineA acts t 0 = [] := by simp [lineA, accW, blanks]
theorem lineA_next (acts : List ByteArray) (t : Ste) (j : Nat) (h : j < t.1.length) : lineA acts t (j + 1) = lineA acts t j ++ (32 :: setS acts (t.1.getD j 0).toNat) := by
  unfold lineA
  rw [take_next t.1 j 0 h]
  unfold accW
  rw [List.map_append, blanks_app]
  simp [blanks]
theorem lineB_zero (acts : List ByteArray) (t : Ste) : lineB acts t 0 = lineA acts t t.1.length ++ [32, 45, 62] := by
  unfold lineB lineA
  rw [blanks_app, List.take_length]
  simp [blanks, bArrow, nxW]
theorem lineB_none (acts : List ByteArray) (t : Ste) (j : Nat) (h : t.2.getD j 0 = -1) : lineB acts t (j + 1) = lineB acts t j := by
  unfold lineB
  rw [nxW_next]
  unfold toW
  rw [if_pos h, List.append_nil]
theorem lineB_some (acts : List ByteArray) (t : Ste) (j : Nat) (h : t.2.getD j 0 ≠ -1) : lineB acts t (j + 1) = lineB acts t j ++ (32 :: (at_ acts j).data.toList ++ 32 :: Lib.decDigits (t.2.getD j 0).toNat) := by
  unfold lineB
  rw [nxW_next]
  unfold toW
  rw [if_neg h, ← List.cons_append, ← List.append_assoc, blanks_app]
  simp [blanks]
theorem lineB_all (acts : List ByteArray) (t : Ste) : lineB acts t t.2.length = blanks (steW acts t) := rfl
structure SteLine (acts : List ByteArray) (ns : Nat) (t : Ste) : Prop where
  ok : actsB acts = true
  len : t.2.length = acts.length
  sets : ∀ x ∈ t.1, 0 ≤ x ∧ x.toNat < 2 ^ acts.length
  nums : ∀ j, j < t.2.length → -1 ≤ t.2.getD j 0 ∧ t.2.getD j 0 < ns
  few : t.1.length ≤ 256
  low : ns ≤ 500
theorem SteLine.a {acts : List ByteArray} {ns : Nat} {t : Ste} (h : SteLine acts ns t) (j : Nat) : (lineA acts t j).length ≤ 60000 := by
  have h1 := blanks_len 200 (accW acts (t.1.take j)) (accW_words h.ok (fun x hx => h.sets x (List.mem_of_mem_take hx)))
  have h2 : (accW acts (t.1.take j)).length ≤ 256 := by unfold accW; rw [List.length_map, List.length_take]; have := h.few; omega
  unfold lineA
  have := Nat.mul_le_mul_left 201 h2
  omega
theorem SteLine.b {acts : List ByteArray} {ns : Nat} {t : Ste} (h : SteLine acts ns t) {j : Nat} (hj : j ≤ t.2.length) : (lineB acts t j).length ≤ 60000 := by
  have h8 := ((actsB_iff acts).1 h.ok).1
  obtain ⟨n1, n2⟩ := nxW_words h.ok h.low h.len hj h.nums
  have h1 := blanks_len 200 (accW acts t.1 ++ bArrow :: nxW acts t.2 j) (fun x hx => by
    rcases List.mem_append.1 hx with hx | hx
    · exact accW_words h.ok h.sets x hx
    · rcases List.mem_cons.1 hx with rfl | hx
      · decide
      · exact n1 x hx)
  have h2 : (accW acts t.1 ++ bArrow :: nxW acts t.2 j).length ≤ 290 := by
    rw [List.length_append, List.length_cons]
    unfold accW
    rw [List.length_map]
    have := h.few
    have := h.len
    omega
  unfold lineB
  have := Nat.mul_le_mul_left 201 h2
  omega
theorem steLine_of {s : Spc} (hv : spcB s = true) {x : Nat} (hx : x < s.states.length) (h : ∀ z ∈ (teAt s.states x).1, z ≤ 9223372036854775807) : SteLine s.acts s.states.length (teAt s.states x) := by
  obtain ⟨ha, h1, h5, he⟩ := (spcB_iff s).1 hv
  obtain ⟨f1, f2, f3⟩ := ste_facts (he x hx) h
  exact ⟨ha, f1, f2, f3, acc_few (he x hx) ((actsB_iff _).1 ha).1 h, h5⟩
theorem NumsArg.le {w : World} {a : Option Addr} {n c : Nat} {xs : List Int} (h : NumsArg w a n c xs) : ∀ z ∈ xs, z ≤ 9223372036854775807 := fun z hz => by
  obtain ⟨j, hj, rfl⟩ := List.getElem_of_mem hz
  have := (h.rng j hj).2
  rwa [List.getD_eq_getElem?_getD, List.getElem?_eq_getElem hj] at this
theorem setCode_yes {acts : List ByteArray} (ha : actsB acts = true) {x : Int} (hx : 0 ≤ x ∧ x.toNat < 2 ^ acts.length) : setCode acts [x] = 0 := by
  have h1 : setB acts.length x = true := (setB_iff _ _).2 ⟨hx.1, by
    have h2 : ((2 ^ acts.length : Nat) : Int) = (2 : Int) ^ acts.length := by norm_cast
    omega⟩
  unfold setCode
  rw [ha, if_pos rfl, List.all_cons, List.all_nil, h1]
  rfl

set_option maxRecDepth 100000 in
set_option maxHeartbeats 8000000 in
theorem spLine_any {w : World} {a : Option Addr} {n c : Nat} {b : Option Addr} {k d : Nat} {s : Spc} {g x n1 c1 n2 c2 : Nat} {a1 a2 : Option Addr} (E : Env w) (T : Tab w) (A : SpecArg w a n c b k d s) (hv : spcB s = true)
    (hg : Whole w g 40 #[.slice a n c, .slice b k d]) (hx : x < s.states.length) (h1 : NumsArg w a1 n1 c1 (teAt s.states x).1) (h2 : NumsArg w a2 n2 c2 (teAt s.states x).2) :
    Calls Tryz.prog 78 #[.agg #[.slice a1 n1 c1, .slice a2 n2 c2], .pointer (some ⟨g, 0, none⟩)] w fun e w' => e = .returned (.string (mk (blanks (steW s.acts (teAt s.states x))))) ∧ Below w.heap.size w w' := by
  have HL := Lib.hid (steLine_of hv hx h1.le)
  obtain ⟨t, HT⟩ : ∃ t, Hid (teAt s.states x = t) := ⟨_, Lib.hid rfl⟩
  rw [HT.out] at HL h1 h2 ⊢
  have HA := Lib.hid A.acts
  have HE := Lib.hid E
  have HTb := Lib.hid T
  have H1 := Lib.hid h1
  have H2 := Lib.hid h2
  have HG := Lib.hid hg
  have h8 := ((actsB_iff s.acts).1 HL.out.ok).1
  have hn8 : n ≤ 8 := by have := A.acts.len; omega
  have hn1 : n1 ≤ 256 := by have := h1.arg.len; have := HL.out.few; omega
  have hn2 : n2 ≤ 8 := by have := h2.arg.len; have := HL.out.len; omega
  have q0 := hg.cell 0
  simp only [List.getElem?_toArray, List.getElem?_cons_zero] at q0
  have HQ0 := Lib.hid q0
  have hgl := hg.lt
  -- the box of the state, the Builder behind it
  have hB1 : Below w.heap.size w (w.alloc (.cells #[.slice a1 n1 c1, .slice a2 n2 c2] 87)) := (Below.refl _ w).alloc (Nat.le_refl _) _
  have b0 := bld_fresh (Whole.new (w.alloc (.cells #[.slice a1 n1 c1, .slice a2 n2 c2] 87)) 125 #[.pointer none, .slice none 0 0])
  have hB2 : Below (w.heap.size + 1) (w.alloc (.cells #[.slice a1 n1 c1, .slice a2 n2 c2] 87)) ((w.alloc (.cells #[.slice a1 n1 c1, .slice a2 n2 c2] 87)).alloc (.cells #[.pointer none, .slice none 0 0] 125)) := (Below.refl _ _).alloc (by simp) _
  have hW := (Whole.new w 87 #[.slice a1 n1 c1, .slice a2 n2 c2])
  simp only [World.size_alloc] at b0
  obtain ⟨w1, HW1⟩ : ∃ z, Hid (w.alloc (.cells #[.slice a1 n1 c1, .slice a2 n2 c2] 87) = z) := ⟨_, Lib.hid rfl⟩
  rw [HW1.out] at hB1 b0 hB2 hW
  have hz1 : w1.heap.size = w.heap.size + 1 := by rw [← HW1.out]; simp
  have HZ1 := Lib.hid hz1
  have HB0 := Lib.hid b0
  have HB1 := Lib.hid hB1
  have HB2 := Lib.hid hB2
  have HWs := Lib.hid hW
  clear E T A hv hg hx h1 h2 q0 b0 hB1 hB2 hW h8 hz1
  go_enter Tryz.func78, Tryz.ntmps78
  go_wp2
  rw [HW1.out]
  go_loopw [6, 7, 8, 14] (fun _ _ _ i wr => ∃ y : Nat, y ≤ n1 ∧ i = .int .i64 y ∧ Bld (w.heap.size + 1) (w.heap.size + 1) (lineA s.acts t y) wr ∧ Below (w.heap.size + 1) w1 wr) (fun _ _ _ i _ => n1 - (intOf i).toNat)
  case atStart => exact ⟨0, Nat.zero_le _, rfl, by rw [lineA_zero]; exact HB0.out, HB2.out⟩
  case round =>
    obtain ⟨y, hy, rfl, hBy, hby⟩ := hrel
    have HBy := Lib.hid hBy
    have Hby := Lib.hid hby
    have hbw := HB1.out.trans (hby.mono (by omega))
    have Hbw := Lib.hid hbw
    have hzy := hby.size
    have hWr := HWs.out.below hby (by omega)
    have p0 := hWr.cell 0
    have p1 := hWr.cell 1
    simp only [List.getElem?_toArray, List.getElem?_cons_succ, List.getElem?_cons_zero] at p0 p1
    have o1 : wr.cell? ⟨g, 0, none⟩ = some (.slice a n c) := (hbw.cell hgl).trans HQ0.out
    clear hBy hby hbw hWr
    by_cases hlt : y < n1
    · obtain ⟨be, oe, rfl, d1⟩ := (H1.out.arg.below Hbw.out).cells y (by have := H1.out.arg.len; omega)
      obtain ⟨X, HX⟩ : ∃ z, Hid (t.1.getD y 0 = z) := ⟨_, Lib.hid rfl⟩
      rw [HX.out] at d1
      have hXs := HL.out.sets X (by rw [← HX.out, List.getD_eq_getElem?_getD, List.getElem?_eq_getElem (by have := H1.out.arg.len; omega)]; exact List.getElem_mem _)
      obtain ⟨e0, e1, e2, hEr⟩ := (HE.out.below Hbw.out).errs
      have hStr := String_any X hEr (HTb.out.below Hbw.out) (HA.out.below Hbw.out)
      unfold stringV at hStr
      rw [if_pos (setCode_yes HL.out.ok hXs)] at hStr
      obtain ⟨z, HZ⟩ : ∃ z : ByteArray, Hid ((⟨(setS s.acts X.toNat).toArray⟩ : ByteArray) = z) := ⟨_, Lib.hid rfl⟩
      rw [HZ.out] at hStr
      have HStr := Lib.hid hStr
      have hzs : z.size ≤ 200 := by
        rw [← HZ.out]
        have := setSp_len HL.out.ok hXs.2
        show (mk (setS s.acts X.toNat)).size ≤ 200
        rw [mk_size']; exact this
      have HN : Hid (lineA s.acts t y ++ ((⟨#[32]⟩ : ByteArray) ++ z).data.toList = lineA s.acts t (y + 1)) := Lib.hid (by
        rw [lineA_next _ _ _ (by have := H1.out.arg.len; omega), HX.out, ← HZ.out]
        simp [ByteArray.data_append])
      have HLn := Lib.hid (HL.out.a y)
      have hadd : ¬ 9223372036854775807 < (⟨#[32]⟩ : ByteArray).size + z.size := by have : (⟨#[32]⟩ : ByteArray).size = 1 := rfl; omega
      have hadd' : ¬ 9223372036854775807 < 1 + z.size := by omega
      clear hXs hStr hEr
      go_wp2_with fail
      refine HStr.out.mono ?_
      rintro e w2 ⟨rfl, hb2⟩
      have HWr := Lib.hid (write_any (w.heap.size + 1) (w.heap.size + 1) (lineA s.acts t y) ((⟨#[32]⟩ : ByteArray) ++ z) w2 (HBy.out.up hb2) (by rw [ByteArray.size_append]; have := HLn.out; have : (⟨#[32]⟩ : ByteArray).size = 1 := rfl; omega) (by have := hb2.size; have := HZ1.out; omega))
      rw [HN.out] at HWr
      have Hb2 := Lib.hid hb2
      clear hb2
      go_wp2_with fail
      refine HWr.out.mono ?_
      rintro e w3 ⟨rfl, hB3, hb3, _⟩
      have HB3 := Lib.hid hB3
      have HF := Lib.hid ((Hby.out.trans (Hb2.out.mono (by have := HZ1.out; omega))).trans hb3)
      clear hB3 hb3 hadd hadd'
      go_wp2
      go_roundw
      case rel => exact ⟨y + 1, by omega, by go_num, HB3.out, HF.out⟩
      case measure => simp [intOf]; omega
    · have HY : Hid (y = t.1.length) := Lib.hid (by have := H1.out.arg.len; omega)
      have HLn := Lib.hid (HL.out.a y)
      have HWr := Lib.hid (write_any (w.heap.size + 1) (w.heap.size + 1) (lineA s.acts t y) (⟨#[32, 45, 62]⟩ : ByteArray) wr HBy.out (by have := HLn.out; have : (⟨#[32, 45, 62]⟩ : ByteArray).size = 3 := rfl; omega) (by have := HZ1.out; omega))
      have HN : Hid (lineA s.acts t y ++ (⟨#[32, 45, 62]⟩ : ByteArray).data.toList = lineB s.acts t 0) := Lib.hid (by rw [lineB_zero, HY.out])
      rw [HN.out] at HWr
      obtain ⟨v0, hv0⟩ : ∃ z, z = wr := ⟨_, rfl⟩
      subst hv0
      go_wp2_with fail
      refine HWr.out.mono ?_
      rintro e w3 ⟨rfl, hB3, hb3, _⟩
      have HB3 := Lib.hid hB3
      have hb3w := Hby.out.trans hb3
      have HF := Lib.hid hb3w
      have hWr := HWs.out.below hb3w (by have := HZ1.out; omega)
      have p2 := hWr.cell 1
      simp only [List.getElem?_toArray, List.getElem?_cons_succ, List.getElem?_cons_zero] at p2
      clear hB3 hb3 hb3w hWr p0 p1 o1
      go_wp2
      go_loopw [9, 10, 33] (fun _ _ i wr => ∃ y : Nat, y ≤ n2 ∧ i = .int .i64 y ∧ Bld (w.heap.size + 1) (w.heap.size + 1) (lineB s.acts t y) wr ∧ Below (w.heap.size + 1) w1 wr) (fun _ _ i _ => n2 - (intOf i).toNat)
      case atStart => exact ⟨0, Nat.zero_le _, rfl, HB3.out, HF.out⟩
      case round =>
        obtain ⟨y, hy, rfl, hBy, hby⟩ := hrel
        have HBy := Lib.hid hBy
        have Hby := Lib.hid hby
        have hbw := HB1.out.trans (hby.mono (by have := HZ1.out; omega))
        have Hbw := Lib.hid hbw
        have hzy := hby.size
        have o1 : wr.cell? ⟨g, 0, none⟩ = some (.slice a n c) := (hbw.cell hgl).trans HQ0.out
        clear hBy hby hbw
        by_cases hlt : y < n2
        · obtain ⟨bk, ok, rfl, d1⟩ := (H2.out.arg.below Hbw.out).cells y (by have := H2.out.arg.len; omega)
          obtain ⟨X, HX⟩ : ∃ z, Hid (t.2.getD y 0 = z) := ⟨_, Lib.hid rfl⟩
          rw [HX.out] at d1
          have hXs := HL.out.nums y (by have := H2.out.arg.len; omega)
          rw [HX.out] at hXs
          have h500 := HL.out.low
          by_cases hX : X = -1
          · have hq : (X != -1) = false := by rw [hX]; rfl
            have HBn : Hid (Bld (w.heap.size + 1) (w.heap.size + 1) (lineB s.acts t (y + 1)) wr) := Lib.hid (by rw [lineB_none _ _ _ (by rw [HX.out]; exact hX)]; exact HBy.out)
            clear hXs hX
            go_wp2
            go_roundw
            case rel => exact ⟨y + 1, by omega, by go_num, HBn.out, Hby.out⟩
            case measure => simp [intOf]; omega
          · obtain ⟨v, hv⟩ : ∃ v : Nat, X = (v : Int) := ⟨X.toNat, by omega⟩
            have hv5 : v < 500 := by omega
            have HXv : Hid (t.2.getD y 0 = (v : Int)) := Lib.hid (by rw [HX.out, hv])
            have hq : ((v : Int) != -1) = true := by rw [bne_iff_ne]; omega
            rw [hv] at d1
            have hyn : y < n := by have := H2.out.arg.len; have := HL.out.len; have := HA.out.len; omega
            obtain ⟨ba, oa, rfl, a0⟩ := HA.out.cells y (by have := HA.out.len; omega)
            obtain ⟨z, HZ⟩ : ∃ z, Hid (at_ s.acts y = z) := ⟨_, Lib.hid rfl⟩
            change w.cell? _ = some (.string (at_ s.acts y)) at a0
            rw [HZ.out] at a0
            have a1' := (Hbw.out.cell (lt_of_cell a0)).trans a0
            have hzs : z.size ≤ 20 := by
              have := nm_len HL.out.ok (k := y) (by have := HA.out.len; omega)
              rw [HZ.out] at this
              rw [Lib.size_eq]; exact this
            obtain ⟨D2, HD2⟩ : ∃ D, Hid (mk (Lib.decDigits v) = D) := ⟨_, Lib.hid rfl⟩
            have hD2 : D2.size ≤ 21 := by rw [← HD2.out, mk_size']; exact dec_length v (by omega)
            have hsp : (⟨#[32]⟩ : ByteArray).size = 1 := rfl
            have HN2 : Hid (lineB s.acts t y ++ ((⟨#[32]⟩ : ByteArray) ++ z ++ (⟨#[32]⟩ : ByteArray) ++ D2).data.toList = lineB s.acts t (y + 1)) := Lib.hid (by
              rw [lineB_some _ _ _ (by rw [HXv.out]; omega), HXv.out, ← HD2.out, HZ.out]
              simp [ByteArray.data_append, mk])
            have HL2 := Lib.hid (HL.out.b (j := y) (by have := H2.out.arg.len; omega))
            have HBo : Hid (Bld (w.heap.size + 1) (w.heap.size + 1) (lineB s.acts t y) wr) := HBy
            have HEr := Lib.hid (HE.out.below Hbw.out)
            have zz0 : g < wr.heap.size := lt_of_cell o1
            have zz1 : ba < wr.heap.size := lt_of_cell a1'
            have zz2 : ba < w.heap.size := lt_of_cell a0
            have zz5 : w.heap.size + 1 < wr.heap.size := bld_lt HBy.out
            have HZz := Lib.hid zz2
            have hy0 : (0 : Int) ≤ (y : Int) := by omega
            have hy1 : (y : Int) < n := by omega
            clear a0 hXs hX hv h500
            have hadd1 : ¬ 9223372036854775807 < (⟨#[32]⟩ : ByteArray).size + z.size := by omega
            have hadd2 : ¬ 9223372036854775807 < ((⟨#[32]⟩ : ByteArray) ++ z).size + (⟨#[32]⟩ : ByteArray).size := by rw [ByteArray.size_append]; omega
            have hadd3 : ¬ 9223372036854775807 < ((⟨#[32]⟩ : ByteArray) ++ z ++ (⟨#[32]⟩ : ByteArray)).size + D2.size := by rw [ByteArray.size_append, ByteArray.size_append]; omega
            have hadd4 : ¬ 9223372036854775807 < 1 + z.size := by omega
            have hadd5 : ¬ 9223372036854775807 < 1 + z.size + 1 := by omega
            have hadd6 : ¬ 9223372036854775807 < 1 + z.size + 1 + D2.size := by omega
            have hadd7 : ¬ 9223372036854775807 < ((⟨#[32]⟩ : ByteArray) ++ z).size + 1 := by rw [ByteArray.size_append]; omega
            go_wp2
            go_region_held3 (fun w' => w'.cell? ⟨g, 0, none⟩ = some (.slice (some ⟨ba, oa, none⟩) n c) ∧ w'.cell? ⟨ba, oa + y, none⟩ = some (.string z))
              ((first | assumption | go_keep))
              (first
                | (go_at_call 65; (refine (itoa_any v (by omega) _ (HEr.out.below ?_)).mono ?_; (first | exact (Below.refl _ _).drew | exact Below.refl _ _); rw [HD2.out]; rintro e wJ ⟨rfl, hbJ⟩; have kI1 := up_cell (p := ⟨g, 0, none⟩) hbJ o1; have kI2 := up_cell (p := ⟨ba, oa + y, none⟩) hbJ a1'; have kIz := hbJ.size))
                | (go_at_call 64; (refine (write_any (w.heap.size + 1) (w.heap.size + 1) (lineB s.acts t y) ((⟨#[32]⟩ : ByteArray) ++ z ++ (⟨#[32]⟩ : ByteArray) ++ D2) _ (up_bld hbJ HBo.out) ?_ ?_).mono ?_; (simp only [ByteArray.size_append]; have := HL2.out; omega); (simp at kIz; omega); rw [HN2.out]; rintro e wK ⟨rfl, hBK, hbK, hkK⟩; have kK1 := (hbK.cell (p := ⟨g, 0, none⟩) (Nat.lt_succ_of_lt HG.out.lt)).trans kI1; have kK2 := (hbK.cell (p := ⟨ba, oa + y, none⟩) (Nat.lt_succ_of_lt HZz.out)).trans kI2)))
            go_wp2
            go_roundw
            case rel =>
              have hbw : Below wr.heap.size wr wJ := by
                first
                  | exact hbJ
                  | exact (Below.refl _ wr).drew.trans hbJ
              exact ⟨y + 1, by omega, by go_num, hBK, (Hby.out.trans (hbw.mono (by omega))).trans hbK⟩
            case measure => simp [intOf]; omega
        · have HN3 : Hid (lineB s.acts t y = blanks (steW s.acts t)) := Lib.hid (by
            have h3 : y = t.2.length := by have := H2.out.arg.len; omega
            rw [h3]; exact lineB_all _ _)
          have hBe := HBy.out
          rw [HN3.out] at hBe
          have HSt := Lib.hid (bstr_any (w.heap.size + 1) (w.heap.size + 1) _ wr hBe (by have := HZ1.out; omega))
          clear hBe
          go_wp2_with fail
          refine HSt.out.mono ?_
          rintro e w7 ⟨rfl, hb7⟩
          go_wp2
          go_ret
          exact ⟨rfl, HB1.out.trans ((Hby.out.trans hb7).mono (by omega))⟩
end Go.Proofs.YtohljainhkdiiaaGreatDoor
