/- Texts joined: FaultPl, IsW, Word, RGood, RList. -/
import Derived.Test.YtohljainhkdiiaaGreatDoorJp14
import Derived.Test.YtohljainhkdiiaaGreatDoorJp15
import Derived.Test.YtohljainhkdiiaaGreatDoorJp02
import Derived.Test.YtohljainhkdiiaaGreatDoorJp16
import Derived.Test.YtohljainhkdiiaaGreatDoorJp11
import Derived.Test.YtohljainhkdiiaaGreatDoorJp12
import Derived.Deep.RegionHeld3
import Derived.Test.YtohljainhkdiiaaGreatDoorJp01
import Derived.Maps.AppendAt
import Derived.OwnWalk
/- Plain facts: what shows that a system does not satisfy a specification; nothing here is about a program. -/
namespace Go.Proofs.YtohljainhkdiiaaGreatDoor.Pl
open Go Go.Lib

/-- a state of the system offers what a state of the specification, or none, accepts -/
def goodB (m : Syst) (s : Spc) (x : Nat) (y : Int) : Bool := decide (0 ≤ y) && fitB m s x y.toNat
def badB (m : Syst) (s : Spc) (l : List Nat) (y : Int) : Bool := l.any fun x => !goodB m s x y
def nextI (s : Spc) (y a : Int) : Int := (teAt s.states y.toNat).2.getD a.toNat 0
/-- along a list: the states of the system, and the one of the specification; nothing where the list is no fault -/
def faultF (m : Syst) (s : Spc) : List Int → List Nat → Int → Option (List Nat × Int)
  | [], l, y => some (l, y)
  | a :: w, l, y => if l = [] ∨ badB m s l y = true then none else if nextI s y a < 0 ∧ nextL m.states l a = [] then none else faultF m s w (nextL m.states l a) (nextI s y a)
def faultB (m : Syst) (s : Spc) (word : List Int) (at_ : Int) : Bool :=
  actsK m.acts.length word && match faultF m s word [0] 0 with
  | none => false
  | some (l, y) => decide (at_ ∈ l.map (fun (x : Nat) => (x : Int))) && !goodB m s at_.toNat y
theorem faultF_stop {m : Syst} {s : Spc} {a : Int} {w : List Int} {l : List Nat} {y : Int} (h : l = [] ∨ badB m s l y = true) : faultF m s (a :: w) l y = none := by
  unfold faultF
  rw [if_pos h]
theorem faultF_lost {m : Syst} {s : Spc} {a : Int} {w : List Int} {l : List Nat} {y : Int} (h : ¬ (l = [] ∨ badB m s l y = true)) (h2 : nextI s y a < 0 ∧ nextL m.states l a = []) : faultF m s (a :: w) l y = none := by
  unfold faultF
  rw [if_neg h, if_pos h2]
theorem faultF_go {m : Syst} {s : Spc} {a : Int} {w : List Int} {l : List Nat} {y : Int} (h : ¬ (l = [] ∨ badB m s l y = true)) (h2 : ¬ (nextI s y a < 0 ∧ nextL m.states l a = [])) : faultF m s (a :: w) l y = faultF m s w (nextL m.states l a) (nextI s y a) := by
  rw [faultF, if_neg h, if_neg h2]
theorem good_pos {m : Syst} {s : Spc} {l : List Nat} {y : Int} (h : ¬ (l = [] ∨ badB m s l y = true)) : 0 ≤ y := by
  cases l with
  | nil => exact absurd (.inl rfl) h
  | cons x l =>
    have h1 : ¬ badB m s (x :: l) y = true := fun e => h (.inr e)
    unfold badB at h1
    rw [List.any_cons, Bool.or_eq_true, not_or] at h1
    have h2 := h1.1
    unfold goodB at h2
    rcases Int.lt_or_le y 0 with h3 | h3
    · rw [decide_eq_false (by omega)] at h2
      simp at h2
    · exact h3
theorem nextI_rng {s : Spc} (hv : spcB s = true) {y a : Int} (hy : 0 ≤ y ∧ y < s.states.length) (ha : 0 ≤ a ∧ a < s.acts.length) : -1 ≤ nextI s y a ∧ nextI s y a < s.states.length ∧ a.toNat < (teAt s.states y.toNat).2.length := by
  have h := ((spcB_iff s).1 hv).2.2.2 y.toNat (by omega)
  unfold steB at h
  rw [Bool.and_eq_true, nextB_iff] at h
  have h2 := h.1.2 a.toNat (by rw [h.1.1]; omega)
  rw [okNext_iff] at h2
  exact ⟨h2.1, h2.2, by rw [h.1.1]; omega⟩
end Go.Proofs.YtohljainhkdiiaaGreatDoor.Pl
/- Words of actions: terms.IsWord, the reference's Word. -/
namespace Go.Proofs.YtohljainhkdiiaaGreatDoor
open Go.RowKit Pl

theorem RActions_any' {w : World} {wa : Option Addr} {wn wc : Nat} {word : List Int} (n : Nat) (_hn : n ≤ 9223372036854775807) (L : IntArg w wa wn wc word) :
    Calls Tryz.prog 56 #[.int .i64 n, .slice wa wn wc] w fun e w' => e = .returned (.bool (actsK n word)) ∧ w = w' := by
  have HL := Lib.hid L
  have HLL := Lib.hid L.len
  have hwn : wn ≤ 9223372036854775807 := L.big
  clear L
  go_enter Tryz.func56, Tryz.ntmps56
  go_wp2
  go_loop [6, 9] (fun _ i => ∃ j : Nat, j ≤ wn ∧ i = .int .i64 j ∧ Hid (∀ x, x < j → 0 ≤ word.getD x 0 ∧ word.getD x 0 < n)) (fun _ i => wn - (intOf i).toNat)
  case atStart => exact ⟨0, Nat.zero_le _, rfl, Lib.hid fun x hx => by omega⟩
  case round =>
    obtain ⟨j, hj, rfl, hg⟩ := hrel
    by_cases hlt : j < wn
    · obtain ⟨bl, ol, rfl, c1⟩ := HL.out.cells j (by have := HLL.out; omega)
      obtain ⟨x, HX⟩ : ∃ x, Hid (word.getD j 0 = x) := ⟨_, Lib.hid rfl⟩
      rw [HX.out] at c1
      by_cases hx0 : x < 0
      · have HB : Hid (actsK n word = false) := Lib.hid (actsK_bad (k := j) (by have := HLL.out; omega) (actK_no (.inl (by rw [HX.out]; exact hx0))))
        go_wp2
        go_ret
        exact ⟨by rw [HB.out]; rfl, rfl⟩
      · by_cases hx1 : (n : Int) ≤ x
        · have HB : Hid (actsK n word = false) := Lib.hid (actsK_bad (k := j) (by have := HLL.out; omega) (actK_no (.inr (by rw [HX.out]; exact hx1))))
          go_wp2
          go_ret
          exact ⟨by rw [HB.out]; rfl, rfl⟩
        · have HG : Hid (∀ z, z < j + 1 → 0 ≤ word.getD z 0 ∧ word.getD z 0 < n) := Lib.hid fun z hz => by
            by_cases e : z = j
            · rw [e, HX.out]; omega
            · exact hg.out z (by omega)
          go_wp2
          go_round
          case rel => exact ⟨j + 1, by omega, by go_num, HG⟩
          case measure => simp [intOf]; omega
    · have HB : Hid (actsK n word = true) := Lib.hid ((actsK_iff n word).2 (fun z hz => hg.out z (by have := HLL.out; omega)))
      go_wp2
      go_ret
      exact ⟨by rw [HB.out]; rfl, rfl⟩
end Go.Proofs.YtohljainhkdiiaaGreatDoor
/- The reference's Offer. -/
namespace Go.Proofs.YtohljainhkdiiaaGreatDoor
open Go.RowKit Pl

set_option maxHeartbeats 1000000 in
/-- the reference's Offer -/
theorem ROffer_any {w : World} {a : Option Addr} {n c : Nat} {b : Option Addr} {k d : Nat} {m : Syst} (A : SysArg w a n c b k d m) (hv : sysB m = true) (x : Nat) (hx : x < m.states.length) :
    Calls Tryz.prog 84 #[.agg #[.slice a n c, .slice b k d], .int .i64 x] w fun e w' => e = .returned (.int .i64 (offN (stAt m.states x))) ∧ Below w.heap.size w w' := by
  have HV := Lib.hid hv
  have HX := Lib.hid hx
  have hb0 := (Below.refl w.heap.size w).alloc (Nat.le_refl _) (.cells #[.slice a n c, .slice b k d] 25)
  obtain ⟨bb, off, rfl, ai, ni, ci, c0, hE⟩ := A.rows x hx
  have c1 := cell_new c0 (.cells #[.slice a n c, .slice (some ⟨bb, off, none⟩) k d] 25)
  have HE := Lib.hid hE
  have hk : k ≤ 140737488355328 := A.big
  have hni : ni ≤ 140737488355328 := by have := hE.cap; have := hE.big; omega
  have hx0 : (0 : Int) ≤ (x : Int) := by omega
  have hx1 : (x : Int) < (k : Int) := by have := A.len; omega
  have hna : m.acts.length ≤ 8 := ((actsB_iff m.acts).1 ((sysB_iff m).1 hv).1).1
  have h8 : Hid (∀ t, t < (stAt m.states x).length → 0 ≤ (edAt (stAt m.states x) t).1 ∧ (edAt (stAt m.states x) t).1 < 8) := Lib.hid fun t ht => by
    have hok : okE m.acts.length m.states.length (edAt (stAt m.states x) t) = true := edge_in (((sysB_iff m).1 hv).2.2.2.1 x hx) (by unfold edAt; rw [List.getD_eq_getElem?_getD, List.getElem?_eq_getElem ht]; exact List.getElem_mem ht)
    have := (okE_iff _ _ _).1 hok
    omega
  have HB0 := Lib.hid hb0
  clear A hv hx hb0 hE c0
  go_enter Tryz.func84, Tryz.ntmps84
  go_wp2
  go_loopw [5, 7, 14] (fun s _ i wr => ∃ t q : Nat, t ≤ ni ∧ i = .int .i64 t ∧ s = .int .i64 q ∧ q < 256 ∧ Hid (q = offN ((stAt m.states x).take t)) ∧ Below w.heap.size w wr) (fun _ _ i _ => ni - (intOf i).toNat)
  case atStart => exact ⟨0, 0, Nat.zero_le _, rfl, rfl, by decide, Lib.hid rfl, HB0.out⟩
  case round =>
    obtain ⟨t, q, ht, rfl, rfl, hq, hqb, hb⟩ := hrel
    by_cases hlt : t < ni
    · obtain ⟨be, oe, rfl, d1, d2⟩ := (HE.out.cells.below hb) t (by have := HE.out.len; omega)
      obtain ⟨h1, h2⟩ := h8.out t (by have := HE.out.len; omega)
      obtain ⟨u, hu⟩ := Int.eq_ofNat_of_zero_le h1
      obtain ⟨x2, hx2⟩ : ∃ x2, x2 = (edAt (stAt m.states x) t).2 := ⟨_, rfl⟩
      rw [← hx2] at d2
      rw [hu] at d1 h2
      obtain ⟨R, HR⟩ : ∃ R : Nat, Hid (R = q ||| 2 ^ u) := ⟨_, Lib.hid rfl⟩
      have hR : R < 256 := by rw [HR.out]; exact Nat.or_lt_two_pow (n := 8) hq (Nat.pow_lt_pow_right (by decide) (by omega))
      have HT : Hid (R = offN ((stAt m.states x).take (t + 1))) := Lib.hid (by rw [offN_take (by have := HE.out.len; omega), hu, ← hqb.out, HR.out]; rfl)
      have HO : Hid (bits .or .i64 (q : Int) (wrap64 (2 ^ u)) = (R : Int)) := Lib.hid (by
        have h2 := pow_le u (by omega)
        have h3 : ((2 ^ u : Nat) : Int) = (2 : Int) ^ u := by norm_cast
        have h4 : 2 ^ u < 256 := Nat.pow_lt_pow_right (n := 8) (by decide) (by omega)
        rw [IntWalk.wrap64_in _ ⟨by omega, by omega⟩, ← h3, HR.out]
        exact i64_or_nat q _ (by omega) (by omega))
      have HB := Lib.hid (hb.alloc hb.size (.cells #[.int .i64 u, .int .i64 x2] 71))
      clear hb h1 hu hx2
      go_wp2
      rw [HO.out]
      go_wp2
      go_roundw
      case rel => exact ⟨t + 1, R, by omega, by go_num, rfl, hR, HT, HB.out⟩
      case measure => simp [intOf]; omega
    · have HF : Hid (q = offN (stAt m.states x)) := Lib.hid (by
        have := hqb.out
        rw [List.take_of_length_le (by have := HE.out.len; omega)] at this
        exact this)
      have HB := Lib.hid hb
      clear hb
      go_wp2
      go_ret
      exact ⟨by rw [HF.out]; rfl, HB.out⟩
end Go.Proofs.YtohljainhkdiiaaGreatDoor
/- The reference's In, Accepts, good, bad. -/
namespace Go.Proofs.YtohljainhkdiiaaGreatDoor
open Go.RowKit Pl

set_option maxHeartbeats 1000000 in
theorem In_any {w : World} {a : Option Addr} {n c : Nat} {xs : List Int} (A : IntArg w a n c xs) (x : Int) :
    Calls Tryz.prog 59 #[.slice a n c, .int .i64 x] w fun e w' => e = .returned (.bool (decide (x ∈ xs))) ∧ w = w' := by
  have HA := Lib.hid A
  have hn : n ≤ 9223372036854775807 := A.big
  clear A
  go_enter Tryz.func59, Tryz.ntmps59
  go_wp2
  go_loop [6, 9] (fun _ p => ∃ j : Nat, j ≤ n ∧ p = .int .i64 j ∧ Hid (x ∉ xs.take j)) (fun _ p => n - (intOf p).toNat)
  case atStart => exact ⟨0, Nat.zero_le _, rfl, Lib.hid (by simp)⟩
  case round =>
    obtain ⟨j, hj, rfl, hne⟩ := hrel
    by_cases hlt : j < n
    · have hjx : j < xs.length := by have := HA.out.len; omega
      obtain ⟨b, off, rfl, c1⟩ := HA.out.cells j hjx
      obtain ⟨y, HY⟩ : ∃ y, Hid (xs.getD j 0 = y) := ⟨_, Lib.hid rfl⟩
      change w.cell? _ = some (.int .i64 (xs.getD j 0)) at c1
      rw [HY.out] at c1
      have HT := Lib.hid (take_next xs j 0 hjx)
      by_cases he : x = y
      · have hq : (x == y) = true := by rw [he]; simp
        have HM : Hid (decide (x ∈ xs) = true) := Lib.hid (decide_eq_true (by
          rw [he, ← HY.out, List.getD_eq_getElem?_getD, List.getElem?_eq_getElem hjx]
          exact List.getElem_mem hjx))
        subst he
        go_wp2
        go_ret
        exact ⟨by rw [HM.out]; rfl, rfl⟩
      · have hq : (x == y) = false := by rw [beq_eq_false_iff_ne]; exact he
        have HN : Hid (x ∉ xs.take (j + 1)) := Lib.hid (by
          rw [HT.out, List.mem_append, List.mem_singleton, HY.out]
          rintro (h | h)
          · exact hne.out h
          · exact he h)
        clear hjx
        go_wp2
        go_round
        case rel => exact ⟨j + 1, by omega, by go_num, HN⟩
        case measure => simp [intOf]; omega
    · have HM : Hid (decide (x ∈ xs) = false) := Lib.hid (decide_eq_false (by
        have := hne.out
        rwa [List.take_of_length_le (by have := HA.out.len; omega)] at this))
      go_wp2
      go_ret
      exact ⟨by rw [HM.out]; rfl, rfl⟩

set_option maxHeartbeats 1000000 in
theorem Accepts_any {w : World} {a : Option Addr} {n c : Nat} {b : Option Addr} {k d : Nat} {s : Spc} (A : SpecArg w a n c b k d s) (y x : Int) (hy : y < s.states.length) :
    Calls Tryz.prog 83 #[.agg #[.slice a n c, .slice b k d], .int .i64 y, .int .i64 x] w fun e w' => e = .returned (.bool (decide (0 ≤ y) && decide (x ∈ (teAt s.states y.toNat).1))) ∧ Below w.heap.size w w' := by
  have hB := (Below.refl w.heap.size w).alloc (Nat.le_refl _) (.cells #[.slice a n c, .slice b k d] 40)
  have HB := Lib.hid hB
  have hk : k ≤ 140737488355328 := A.big
  by_cases h0 : 0 ≤ y
  · obtain ⟨u, rfl⟩ := Int.eq_ofNat_of_zero_le h0
    have hus : u < s.states.length := by omega
    obtain ⟨bb, off, rfl, a1, n1, c1, a2, n2, c2, d1, d2, hN1, hN2⟩ := (A.rows.below hB) u hus
    have hu1 : (u : Int) < k := by have := A.len; omega
    have HI := Lib.hid (In_any hN1.arg x)
    have HV : Hid ((decide ((0 : Int) ≤ (u : Int)) && decide (x ∈ (teAt s.states (u : Int).toNat).1)) = decide (x ∈ (teAt s.states u).1)) := Lib.hid (by rw [Int.toNat_natCast, decide_eq_true h0, Bool.true_and])
    obtain ⟨v, Hv⟩ : ∃ v, Hid (decide (x ∈ (teAt s.states u).1) = v) := ⟨_, Lib.hid rfl⟩
    rw [Hv.out] at HI HV
    rw [HV.out]
    clear A hB hN1 hN2 hy hus
    go_enter Tryz.func83, Tryz.ntmps83
    go_wp2_with fail
    refine HI.out.mono ?_
    rintro e w' ⟨rfl, rfl⟩
    go_wp2
    go_ret
    exact ⟨rfl, HB.out⟩
  · have HV : Hid ((decide ((0 : Int) ≤ y) && decide (x ∈ (teAt s.states y.toNat).1)) = false) := Lib.hid (by rw [decide_eq_false h0]; rfl)
    rw [HV.out]
    have h1 : y < 0 := by omega
    clear A hB
    go_enter Tryz.func83, Tryz.ntmps83
    go_wp2
    go_ret
    exact ⟨rfl, HB.out⟩

theorem fit_off (m : Syst) (s : Spc) (x y : Nat) : fitB m s x y = decide ((offN (stAt m.states x) : Int) ∈ (teAt s.states y).1) := rfl

set_option maxRecDepth 100000 in
set_option maxHeartbeats 2000000 in
theorem good_any {w : World} {a : Option Addr} {n c : Nat} {b : Option Addr} {k d : Nat} {m : Syst} {a' : Option Addr} {n' c' : Nat} {b' : Option Addr} {k' d' : Nat} {s : Spc} (A : SysArg w a n c b k d m) (S : SpecArg w a' n' c' b' k' d' s) (hv : sysB m = true) (x : Nat) (y : Int) (hx : x < m.states.length) (hy : y < s.states.length) :
    Calls Tryz.prog 47 #[.agg #[.slice a n c, .slice b k d], .agg #[.slice a' n' c', .slice b' k' d'], .agg #[.int .i64 x, .int .i64 y]] w fun e w' => e = .returned (.bool (goodB m s x y)) ∧ Below w.heap.size w w' := by
  have hb0 := (((Below.refl w.heap.size w).alloc (Nat.le_refl _) (.cells #[.slice a n c, .slice b k d] 25)).alloc (by simp) (.cells #[.slice a' n' c', .slice b' k' d'] 40)).alloc (by simp; omega) (.cells #[.int .i64 x, .int .i64 y] 96)
  have h1 := ((Whole.new w 25 #[.slice a n c, .slice b k d]).alloc (.cells #[.slice a' n' c', .slice b' k' d'] 40)).alloc (.cells #[.int .i64 x, .int .i64 y] 96)
  have h2 := (Whole.new (w.alloc (.cells #[.slice a n c, .slice b k d] 25)) 40 #[.slice a' n' c', .slice b' k' d']).alloc (.cells #[.int .i64 x, .int .i64 y] 96)
  have h3 := Whole.new ((w.alloc (.cells #[.slice a n c, .slice b k d] 25)).alloc (.cells #[.slice a' n' c', .slice b' k' d'] 40)) 96 #[.int .i64 x, .int .i64 y]
  simp only [World.size_alloc] at h2 h3
  obtain ⟨w0, HW0⟩ : ∃ z, Hid (((w.alloc (.cells #[.slice a n c, .slice b k d] 25)).alloc (.cells #[.slice a' n' c', .slice b' k' d'] 40)).alloc (.cells #[.int .i64 x, .int .i64 y] 96) = z) := ⟨_, Lib.hid rfl⟩
  rw [HW0.out] at hb0 h1 h2 h3
  have q0 : w0.cell? ⟨w.heap.size, 0, none⟩ = some (.slice a n c) := h1.cell 0
  have q1 : w0.cell? ⟨w.heap.size, 1, none⟩ = some (.slice b k d) := h1.cell 1
  have q2 : w0.cell? ⟨w.heap.size + 1, 0, none⟩ = some (.slice a' n' c') := h2.cell 0
  have q3 : w0.cell? ⟨w.heap.size + 1, 1, none⟩ = some (.slice b' k' d') := h2.cell 1
  have q4 : w0.cell? ⟨w.heap.size + 1 + 1, 0, none⟩ = some (.int .i64 x) := h3.cell 0
  have q5 : w0.cell? ⟨w.heap.size + 1 + 1, 1, none⟩ = some (.int .i64 y) := h3.cell 1
  have HOf : Hid (∀ W, Below w0.heap.size w0 W → Calls Tryz.prog 84 #[.agg #[.slice a n c, .slice b k d], .int .i64 x] W fun e w' => e = .returned (.int .i64 (offN (stAt m.states x))) ∧ Below W.heap.size W w') := Lib.hid fun W hb => ROffer_any ((A.below hb0).below hb) hv x hx
  obtain ⟨o, HOo⟩ : ∃ z, Hid (offN (stAt m.states x) = z) := ⟨_, Lib.hid rfl⟩
  rw [HOo.out] at HOf
  have HAc : Hid (∀ W, Below w0.heap.size w0 W → Calls Tryz.prog 83 #[.agg #[.slice a' n' c', .slice b' k' d'], .int .i64 y, .int .i64 o] W fun e w' => e = .returned (.bool (goodB m s x y)) ∧ Below W.heap.size W w') := Lib.hid fun W hb => by
    have := Accepts_any ((S.below hb0).below hb) y o hy
    unfold goodB
    rw [fit_off, HOo.out]
    exact this
  obtain ⟨v, Hv⟩ : ∃ v, Hid (goodB m s x y = v) := ⟨_, Lib.hid rfl⟩
  rw [Hv.out] at HAc
  rw [Hv.out]
  have HB0 := Lib.hid hb0
  have d0 : w0.drew.cell? ⟨w.heap.size, 0, none⟩ = some (.slice a n c) := q0
  have d1 : w0.drew.cell? ⟨w.heap.size, 1, none⟩ = some (.slice b k d) := q1
  have d2 : w0.drew.cell? ⟨w.heap.size + 1, 0, none⟩ = some (.slice a' n' c') := q2
  have d3 : w0.drew.cell? ⟨w.heap.size + 1, 1, none⟩ = some (.slice b' k' d') := q3
  have d4 : w0.drew.cell? ⟨w.heap.size + 1 + 1, 0, none⟩ = some (.int .i64 x) := q4
  have d5 : w0.drew.cell? ⟨w.heap.size + 1 + 1, 1, none⟩ = some (.int .i64 y) := q5
  clear A S hv hx hy hb0 h1 h2 h3
  go_enter Tryz.func47, Tryz.ntmps47
  go_wp2
  rw [HW0.out]
  go_region_held3 (fun w' => w'.cell? ⟨w.heap.size, 0, none⟩ = some (.slice a n c) ∧ w'.cell? ⟨w.heap.size, 1, none⟩ = some (.slice b k d) ∧ w'.cell? ⟨w.heap.size + 1, 0, none⟩ = some (.slice a' n' c') ∧ w'.cell? ⟨w.heap.size + 1, 1, none⟩ = some (.slice b' k' d') ∧ w'.cell? ⟨w.heap.size + 1 + 1, 0, none⟩ = some (.int .i64 x) ∧ w'.cell? ⟨w.heap.size + 1 + 1, 1, none⟩ = some (.int .i64 y))
    ((with_reducible (first | assumption | exact ⟨k0, k1, k2, k3, k4, k5⟩ | exact ⟨d0, d1, d2, d3, d4, d5⟩ | exact ⟨q0, q1, q2, q3, q4, q5⟩)))
    (first
      | (go_at_call 83; refine (HAc.out _ hbO).mono ?_; rintro e wP ⟨rfl, hbP⟩; have hbQ := below_two hbO hbP; have k0 := up_cell hbQ q0; have k1 := up_cell hbQ q1; have k2 := up_cell hbQ q2; have k3 := up_cell hbQ q3; have k4 := up_cell hbQ q4; have k5 := up_cell hbQ q5)
      | (go_at_call 84; refine (HOf.out _ (Below.refl _ w0).drew).mono ?_; rintro e wO ⟨rfl, hbO'⟩; have hbO := below_two (Below.refl w0.heap.size w0).drew hbO'; have k0 := up_cell hbO q0; have k1 := up_cell hbO q1; have k2 := up_cell hbO q2; have k3 := up_cell hbO q3; have k4 := up_cell hbO q4; have k5 := up_cell hbO q5))
  go_wp2
  go_ret
  exact ⟨rfl, HB0.out.trans (hbQ.mono HB0.out.size)⟩

set_option maxRecDepth 100000 in
set_option maxHeartbeats 2000000 in
theorem bad_any {w : World} {a : Option Addr} {n c : Nat} {b : Option Addr} {k d : Nat} {m : Syst} {a' : Option Addr} {n' c' : Nat} {b' : Option Addr} {k' d' : Nat} {s : Spc} {la : Option Addr} {ln lc : Nat} {l : List Nat} (A : SysArg w a n c b k d m) (S : SpecArg w a' n' c' b' k' d' s) (hv : sysB m = true) (L : IntArg w la ln lc (zs l)) (hl : ∀ x ∈ l, x < m.states.length) (y : Int) (hy : y < s.states.length) :
    Calls Tryz.prog 57 #[.agg #[.slice a n c, .slice b k d], .agg #[.slice a' n' c', .slice b' k' d'], .slice la ln lc, .int .i64 y] w fun e w' => e = .returned (.bool (badB m s l y)) ∧ Below w.heap.size w w' := by
  have hb0 := ((Below.refl w.heap.size w).alloc (Nat.le_refl _) (.cells #[.slice a n c, .slice b k d] 25)).alloc (by simp) (.cells #[.slice a' n' c', .slice b' k' d'] 40)
  have h1 := (Whole.new w 25 #[.slice a n c, .slice b k d]).alloc (.cells #[.slice a' n' c', .slice b' k' d'] 40)
  have h2 := Whole.new (w.alloc (.cells #[.slice a n c, .slice b k d] 25)) 40 #[.slice a' n' c', .slice b' k' d']
  simp only [World.size_alloc] at h2
  obtain ⟨w0, HW0⟩ : ∃ z, Hid ((w.alloc (.cells #[.slice a n c, .slice b k d] 25)).alloc (.cells #[.slice a' n' c', .slice b' k' d'] 40) = z) := ⟨_, Lib.hid rfl⟩
  rw [HW0.out] at hb0 h1 h2
  have H1 := Lib.hid h1
  have H2 := Lib.hid h2
  have HB0 := Lib.hid hb0
  have HA := Lib.hid (A.below hb0)
  have HS := Lib.hid (S.below hb0)
  have HL := Lib.hid (L.below hb0)
  have HV := Lib.hid hv
  have HLr := Lib.hid hl
  have HY := Lib.hid hy
  have HLn : Hid (l.length = ln) := Lib.hid (by have := L.len; rw [this]; simp [zs])
  have hn : ln ≤ 9223372036854775807 := L.big
  clear A S hv L hl hy hb0 h1 h2
  go_enter Tryz.func57, Tryz.ntmps57
  go_wp2
  rw [HW0.out]
  go_loopw [10, 13] (fun _ p wr => ∃ j : Nat, j ≤ ln ∧ p = .int .i64 j ∧ Hid (badB m s (l.take j) y = false) ∧ Below w0.heap.size w0 wr) (fun _ p _ => ln - (intOf p).toNat)
  case atStart => exact ⟨0, Nat.zero_le _, rfl, Lib.hid rfl, Below.refl _ _⟩
  case round =>
    obtain ⟨j, hj, rfl, hgo, hb⟩ := hrel
    have Hb := Lib.hid hb
    by_cases hlt : j < ln
    · have hjl : j < l.length := by rw [HLn.out]; exact hlt
      obtain ⟨bl, ol, rfl, c1⟩ := (HL.out.below hb).cells j (by simp [zs]; exact hjl)
      obtain ⟨x, HX⟩ : ∃ x, Hid (l.getD j 0 = x) := ⟨_, Lib.hid rfl⟩
      have hz : (zs l).getD j 0 = (x : Int) := by rw [← HX.out]; simp [zs, List.getD, hjl]
      rw [hz] at c1
      have hxs : x < m.states.length := by rw [← HX.out, List.getD_eq_getElem?_getD, List.getElem?_eq_getElem hjl]; exact HLr.out _ (List.getElem_mem hjl)
      have HG := good_any (HA.out.below hb) (HS.out.below hb) HV.out x y hxs HY.out
      have x0 := (H1.out.below hb H1.out.lt).cell 0
      have x1 := (H1.out.below hb H1.out.lt).cell 1
      have x2 := (H2.out.below hb H2.out.lt).cell 0
      have x3 := (H2.out.below hb H2.out.lt).cell 1
      simp only [List.getElem?_toArray, List.getElem?_cons_succ, List.getElem?_cons_zero] at x0 x1 x2 x3
      have HTk : Hid (l.take (j + 1) = l.take j ++ [x]) := Lib.hid (by rw [take_next l j 0 hjl, HX.out])
      have HBa : Hid (badB m s (l.take (j + 1)) y = !goodB m s x y) := Lib.hid (by
        rw [HTk.out]
        have := hgo.out
        unfold badB at this ⊢
        rw [List.any_append, this]
        simp)
      clear hb hz hxs
      cases hg : goodB m s x y
      · rw [hg] at HG HBa
        have HG := Lib.hid HG
        have HF : Hid (badB m s l y = true) := Lib.hid (by
          have h9 := HBa.out
          unfold badB at h9 ⊢
          obtain ⟨z, hz1, hz2⟩ := List.any_eq_true.1 (show _ = true from h9)
          exact List.any_eq_true.2 ⟨z, List.mem_of_mem_take hz1, hz2⟩)
        clear hg hjl
        go_wp2_with fail
        refine HG.out.mono ?_
        rintro e w2 ⟨rfl, hb2⟩
        have HB2 := Lib.hid (HB0.out.trans ((Hb.out.trans (hb2.mono Hb.out.size)).mono HB0.out.size))
        clear hb2
        go_wp2
        go_ret
        exact ⟨by rw [HF.out]; rfl, HB2.out⟩
      · rw [hg] at HG HBa
        have HG := Lib.hid HG
        clear hg hjl
        go_wp2_with fail
        refine HG.out.mono ?_
        rintro e w2 ⟨rfl, hb2⟩
        have HB2 := Lib.hid (Hb.out.trans (hb2.mono Hb.out.size))
        clear hb2
        go_wp2
        go_roundw
        case rel => exact ⟨j + 1, by omega, by go_num, HBa, HB2.out⟩
        case measure => simp [intOf]; omega
    · have HF : Hid (badB m s l y = false) := Lib.hid (by
        have := hgo.out
        rwa [List.take_of_length_le (by rw [HLn.out]; omega)] at this)
      have HB2 := Lib.hid (HB0.out.trans (hb.mono HB0.out.size))
      clear hb
      go_wp2
      go_ret
      exact ⟨by rw [HF.out]; rfl, HB2.out⟩
end Go.Proofs.YtohljainhkdiiaaGreatDoor
/- The reference's List. -/
namespace Go.Proofs.YtohljainhkdiiaaGreatDoor
open Go.RowKit Pl

theorem own_geL {W : World} {base : Nat} {e : TypeId} {size n : Nat} {v : Value} {xs : List Value} (h : W.ownsRow base e size v n xs) : ∀ k, v.ownBlock = some k → base ≤ k := by
  intro k hk
  rcases h.2 with ⟨rfl, rfl⟩ | ⟨g, cap, cur, rfl, hg, _⟩
  · cases hk
  · cases hk
    exact hg
theorem infoIntL : (Tryz.prog.info? 3).map (fun i => (i.zero, i.size, i.bytes)) = some (some (.int .i64 0), 1, 8) := by kernel_rfl
/-- the members of y below n, as the reference runs through them -/
def bitsL (n y : Nat) : List Nat := (List.range n).filter fun k => y.testBit k
theorem bitsL_yes (n y : Nat) (h : y.testBit n = true) : bitsL (n + 1) y = bitsL n y ++ [n] := by
  simp only [bitsL, List.range_succ, List.filter_append, List.filter_cons, List.filter_nil, h, if_true]
theorem bitsL_no (n y : Nat) (h : y.testBit n = false) : bitsL (n + 1) y = bitsL n y := by
  simp only [bitsL, List.range_succ, List.filter_append, List.filter_cons, List.filter_nil, h, Bool.false_eq_true, if_false, List.append_nil]
theorem bitsL_len (n y : Nat) : (bitsL n y).length ≤ n := by
  have := List.length_filter_le (fun k => y.testBit k) (List.range n)
  rwa [List.length_range] at this
theorem bitsL_lt {n y k : Nat} (h : k ∈ bitsL n y) : k < n := List.mem_range.1 (List.mem_filter.1 h).1
theorem has_at (y k : Nat) (hk : k ≤ 62) (hy : y ≤ 9223372036854775807) (W : World) : Calls Tryz.prog 148 #[.int .i64 y, .int .i64 k] W fun e w' => e = .returned (.bool (y.testBit k)) ∧ W = w' := by
  have := Has_any (y : Int) (k : Int) W (by omega) (by omega) (by omega) (by omega)
  simpa using this

set_option maxRecDepth 100000 in
set_option maxHeartbeats 1000000 in
theorem RList_any {w : World} (n y : Nat) (hn : n ≤ 8) (hy : y < 256) :
    Calls Tryz.prog 116 #[.int .i64 n, .int .i64 y] w fun e w' => ∃ v, e = .returned v ∧ w'.ownsRow w.heap.size 3 1 v (bitsL n y).length ((bitsL n y).map (fun k : Nat => Value.int .i64 k)) ∧ Below w.heap.size w w' := by
  obtain ⟨i0, hi, hz0, hz1, hz2⟩ := info_parts infoIntL
  go_enter Tryz.func116, Tryz.ntmps116
  go_wp2
  go_loopw [5, 6, 8] (fun v _ i wr => ∃ k : Nat, k ≤ n ∧ i = .int .i64 k ∧ wr.ownsRow w.heap.size 3 1 v (bitsL k y).length ((bitsL k y).map (fun k : Nat => Value.int .i64 k)) ∧ Below w.heap.size w wr) (fun _ _ i _ => n - (intOf i).toNat)
  case atStart => exact ⟨0, by omega, rfl, World.ownsRow_nil _ _ _ _, Below.refl _ _⟩
  case round =>
    obtain ⟨k, hk, rfl, hrow, hB⟩ := hrel
    by_cases hlt : k < n
    · have HH := Lib.hid (has_at y k (by omega) (by omega))
      have hl := bitsL_len k y
      cases hb : y.testBit k
      · have HG := Lib.hid (bitsL_no k y hb)
        rw [hb] at HH
        clear hb
        go_wp2_with fail
        refine (HH.out _).mono ?_
        rintro e w' ⟨rfl, rfl⟩
        go_wp2
        go_roundw
        case rel => exact ⟨k + 1, by omega, by go_num, by rw [HG.out]; exact hrow, hB⟩
        case measure => simp [intOf]; omega
      · have HG := Lib.hid (bitsL_yes k y hb)
        rw [hb] at HH
        clear hb
        go_wp2_with fail
        refine (HH.out _).mono ?_
        rintro e w' ⟨rfl, rfl⟩
        go_wp2_with (at_builtin; refine wpList_append_own _ rfl _ _ 28 rfl w.heap.size 3 i0 (.int .i64 0) 1 8 Tryz.underlying28 hi hz0 hz1 hz2 rfl (by decide) _ _ _ rfl (hrow.alloc _) ⟨_, 0, none⟩ 1 1 [(.int .i64 k)] rfl rfl (cell_one_new _ _ _) (by simp [Value.oneCell']) (by unfold maxLen; omega) (by omega) (by have := hB.size; simp; omega) ?_; intro v' w1 hown' hgrow _)
        have hg' : (wr.alloc (.cells #[.int .i64 k] 3)).grownBy w1 u5.ownBlock := hgrow
        go_roundw
        case rel =>
          refine ⟨k + 1, by omega, by go_num, ?_, (hB.alloc hB.size _).grown hg' (by have := hB.size; simp; omega) (own_geL hrow)⟩
          rw [HG.out, List.length_append, List.map_append]
          exact hown'
        case measure => simp [intOf]; omega
    · obtain rfl : n = k := by omega
      go_wp2
      go_ret
      exact ⟨_, rfl, hrow, hB⟩
end Go.Proofs.YtohljainhkdiiaaGreatDoor
