/- Texts joined: Spec, Sys. -/
import Derived.Test.YtgpfpnenpgnogaaGreatDoorJa04
import Derived.Test.YtgpfpnenpgnogaaGreatDoorJa00
/- A specification in memory; the reference's Few; spec.Check. -/
namespace Go.Proofs.YtgpfpnenpgnogaaGreatDoor
open Go.RowKit Pl

/-- numbers of ints that lie in memory -/
structure NumsArg (w : World) (a : Option Addr) (n c : Nat) (xs : List Int) : Prop where
  arg : IntArg w a n c xs
  few : n ≤ 17592186044416
  rng : ∀ j, j < xs.length → -9223372036854775808 ≤ xs.getD j 0 ∧ xs.getD j 0 ≤ 9223372036854775807
theorem NumsArg.below {w w' : World} {a : Option Addr} {n c : Nat} {xs : List Int} (h : NumsArg w a n c xs) (hb : Below w.heap.size w w') : NumsArg w' a n c xs := ⟨h.arg.below hb, h.few, h.rng⟩
/-- the states: each two slices -/
def StesIn (w : World) (b : Option Addr) (ss : List Ste) : Prop :=
  ∀ i, i < ss.length → ∃ bb off, b = some ⟨bb, off, none⟩ ∧ ∃ a1 n1 c1 a2 n2 c2, w.cell? ⟨bb, off + i * 2, none⟩ = some (.slice a1 n1 c1) ∧ w.cell? ⟨bb, off + i * 2 + 1, none⟩ = some (.slice a2 n2 c2) ∧
    NumsArg w a1 n1 c1 (teAt ss i).1 ∧ NumsArg w a2 n2 c2 (teAt ss i).2
theorem StesIn.below {w w' : World} {b : Option Addr} {ss : List Ste} (h : StesIn w b ss) (hb : Below w.heap.size w w') : StesIn w' b ss := fun i hi => by
  obtain ⟨bb, off, e, a1, n1, c1, a2, n2, c2, h1, h2, h3, h4⟩ := h i hi
  exact ⟨bb, off, e, a1, n1, c1, a2, n2, c2, (hb.cell (lt_of_cell h1)).trans h1, (hb.cell (lt_of_cell h2)).trans h2, h3.below hb, h4.below hb⟩
/-- a specification as its two slices hold it -/
structure SpecArg (w : World) (a : Option Addr) (n c : Nat) (b : Option Addr) (k d : Nat) (s : Spc) : Prop where
  acts : StrArg w a n c s.acts
  abig : n ≤ 140737488355328
  nil : b = none → d = 0
  len : k = s.states.length
  cap : k ≤ d
  big : k ≤ 140737488355328
  rows : StesIn w b s.states
theorem SpecArg.below {w w' : World} {a : Option Addr} {n c : Nat} {b : Option Addr} {k d : Nat} {s : Spc} (h : SpecArg w a n c b k d s) (hb : Below w.heap.size w w') : SpecArg w' a n c b k d s :=
  ⟨h.acts.below hb, h.abig, h.nil, h.len, h.cap, h.big, h.rows.below hb⟩

theorem fewS_no {s : Spc} {most i : Nat} (h : most < s.acts.length + s.states.length + totalS (s.states.take i)) : fewS s most = false := by
  have := totalS_take_le s.states i
  rw [Bool.eq_false_iff, Ne, fewS_iff]; omega
set_option maxHeartbeats 1000000 in
theorem SFew_any {w : World} {a : Option Addr} {n c : Nat} {b : Option Addr} {k d : Nat} {s : Spc} (most : Nat) (hm : most ≤ 4611686018427387904) (A : SpecArg w a n c b k d s) :
    Calls Tryz.prog 7 #[.agg #[.slice a n c, .slice b k d], .int .i64 most] w fun e w' => e = .returned (.bool (fewS s most)) ∧ Below w.heap.size w w' := by
  have HA := Lib.hid A
  have h1 : n ≤ 140737488355328 := A.abig
  have h2 : k ≤ 140737488355328 := A.big
  have hB := (Below.refl w.heap.size w).alloc (Nat.le_refl _) (.cells #[.slice a n c, .slice b k d] 28)
  have HX := Lib.hid (hB.cell (p := ⟨w.heap.size, 1, none⟩))
  have HB := Lib.hid hB
  clear A hB HX
  go_enter Tryz.func7, Tryz.ntmps7
  go_wp2
  go_loopw [5, 6] (fun q i wr => ∃ j t : Nat, j ≤ k ∧ i = .int .i64 j ∧ q = .int .i64 t ∧ Hid (t = s.acts.length + s.states.length + totalS (s.states.take j)) ∧ t ≤ 4611686018427387904 + 281474976710656 ∧ Below (w.heap.size + 1) (w.alloc (.cells #[.slice a n c, .slice b k d] 28)) wr) (fun _ i _ => k - (intOf i).toNat)
  case atStart => exact ⟨0, n + k, Nat.zero_le _, rfl, by go_num, Lib.hid (by have := HA.out.len; have := HA.out.acts.len; simp [totalS]; omega), by omega, Below.refl _ _⟩
  case round =>
    obtain ⟨j, t, hj, rfl, rfl, ht, htb, hb⟩ := hrel
    have q1 : wr.cell? ⟨w.heap.size, 1, none⟩ = some (.slice b k d) := by rw [hb.cell (by simp)]; simp
    have HBr := Lib.hid hb
    have HBw := Lib.hid (HB.out.trans (hb.mono (by omega)))
    clear hb
    by_cases hlt : j < k
    · by_cases hle : t ≤ most
      · obtain ⟨bb, off, rfl, a1, n1, c1, a2, n2, c2, d1, d2, hN1, hN2⟩ := (HA.out.rows.below HBw.out) j (by have := HA.out.len; omega)
        have h3 := hN1.few
        have h4 := hN2.few
        have HT : Hid (t + (n1 + n2) = s.acts.length + s.states.length + totalS (s.states.take (j + 1))) := Lib.hid (by
          have := ht.out; have := totalS_take s.states j (by have := HA.out.len; omega); have := hN1.arg.len; have := hN2.arg.len; omega)
        have hj0 : (0 : Int) ≤ (j : Int) := by omega
        have hj1 : (j : Int) < (k : Int) := by omega
        have hw1 : IntKind.i64.wrap ((n1 : Int) + n2) = (n1 : Int) + n2 := IntWalk.i64_in _ (by omega)
        have hw2 : IntKind.i64.wrap ((t : Int) + ((n1 : Int) + n2)) = (t : Int) + ((n1 : Int) + n2) := IntWalk.i64_in _ (by omega)
        clear hN1 hN2
        go_wp2
        go_quiet (fail)
        go_wp2
        go_roundw
        case rel => exact ⟨j + 1, t + (n1 + n2), by omega, by go_num, by go_num, HT, by omega, below_drewN HBr.out _⟩
        case measure => simp [intOf]; omega
      · have HV := Lib.hid (fewS_no (s := s) (most := most) (i := j) (by have := ht.out; omega))
        go_wp2
        go_ret
        exact ⟨by rw [HV.out]; rfl, HBw.out⟩
    · have HT : Hid (fewS s most = decide (t ≤ most)) := Lib.hid (by
        have := ht.out
        rw [List.take_of_length_le (by have := HA.out.len; omega)] at this
        rw [this]; rfl)
      by_cases hle : t ≤ most
      · have HV : Hid (fewS s most = true) := Lib.hid (by rw [HT.out]; exact decide_eq_true hle)
        go_wp2
        go_ret
        exact ⟨by rw [HV.out]; rfl, HBw.out⟩
      · have HV : Hid (fewS s most = false) := Lib.hid (by rw [HT.out]; exact decide_eq_false hle)
        go_wp2
        go_ret
        exact ⟨by rw [HV.out]; rfl, HBw.out⟩

set_option maxHeartbeats 1000000 in
theorem isNext_any {w : World} {a : Option Addr} {n c : Nat} {next : List Int} (na ns : Nat) (hna : na ≤ 9223372036854775807) (_hns : ns ≤ 9223372036854775807) (A : IntArg w a n c next) :
    Calls Tryz.prog 93 #[.slice a n c, .int .i64 na, .int .i64 ns] w fun e w' => e = .returned (.bool (nextB na ns next)) ∧ w = w' := by
  have HA := Lib.hid A
  have HL := Lib.hid A.len
  have hbig : n ≤ 9223372036854775807 := A.big
  clear A
  by_cases hl : n = na
  · subst hl
    have hq : ((n : Int) != n) = false := by simp
    go_enter Tryz.func93, Tryz.ntmps93
    go_wp2
    go_loop [8, 15] (fun _ i => ∃ j : Nat, j ≤ n ∧ i = .int .i64 j ∧ Hid (∀ x, x < j → okNext ns (next.getD x 0) = true)) (fun _ i => n - (intOf i).toNat)
    case atStart => exact ⟨0, Nat.zero_le _, rfl, Lib.hid fun x hx => by omega⟩
    case round =>
      obtain ⟨j, hj, rfl, hg⟩ := hrel
      by_cases hlt : j < n
      · obtain ⟨bl, ol, rfl, c1⟩ := HA.out.cells j (by have := HL.out; omega)
        obtain ⟨x, HX⟩ : ∃ x, Hid (next.getD j 0 = x) := ⟨_, Lib.hid rfl⟩
        rw [HX.out] at c1
        cases hok : okNext ns x
        · have HB : Hid (nextB n ns next = false) := Lib.hid (by
            rw [Bool.eq_false_iff, Ne, nextB_iff]
            rintro ⟨_, h⟩
            have := h j (by have := HL.out; omega)
            rw [HX.out, hok] at this
            cases this)
          have hno : x < -1 ∨ (ns : Int) ≤ x := by
            rw [Bool.eq_false_iff, Ne, okNext_iff] at hok
            omega
          have hne : (x != -1) = true := by rw [bne_iff_ne]; omega
          clear hok
          rcases hno with h | h
          · have hx0 : x < 0 := by omega
            go_wp2
            go_ret
            exact ⟨by rw [HB.out]; rfl, rfl⟩
          · have hx0 : ¬ x < 0 := by omega
            go_wp2
            go_ret
            exact ⟨by rw [HB.out]; rfl, rfl⟩
        · have HG : Hid (∀ z, z < j + 1 → okNext ns (next.getD z 0) = true) := Lib.hid fun z hz => by
            by_cases e : z = j
            · rw [e, HX.out]; exact hok
            · exact hg.out z (by omega)
          have hyes := (okNext_iff _ _).1 hok
          clear hok
          by_cases hm : x = -1
          · have hne : (x != -1) = false := by rw [bne_eq_false_iff_eq]; exact hm
            clear hm
            go_wp2
            go_round
            case rel => exact ⟨j + 1, by omega, by go_num, HG⟩
            case measure => simp [intOf]; omega
          · have hne : (x != -1) = true := by rw [bne_iff_ne]; exact hm
            have hx0 : ¬ x < 0 := by omega
            have hx1 : ¬ (ns : Int) ≤ x := by omega
            clear hm
            go_wp2
            go_round
            case rel => exact ⟨j + 1, by omega, by go_num, HG⟩
            case measure => simp [intOf]; omega
      · have HB : Hid (nextB n ns next = true) := Lib.hid ((nextB_iff _ _ _).2 ⟨HL.out.symm, fun z hz => hg.out z (by have := HL.out; omega)⟩)
        go_wp2
        go_ret
        exact ⟨by rw [HB.out]; rfl, rfl⟩
  · have hq : ((n : Int) != na) = true := by rw [bne_iff_ne]; omega
    have HB : Hid (nextB na ns next = false) := Lib.hid (by
      rw [Bool.eq_false_iff, Ne, nextB_iff]
      rintro ⟨h, _⟩
      have := HL.out
      omega)
    clear hl
    go_enter Tryz.func93, Tryz.ntmps93
    go_wp2
    go_ret
    exact ⟨by rw [HB.out]; rfl, rfl⟩

set_option maxHeartbeats 2000000 in
theorem isAccept_any {w : World} {a : Option Addr} {n c : Nat} {acc : List Int} {a2 : Option Addr} {n2 c2 : Nat} {next : List Int} (A : NumsArg w a n c acc) (N : IntArg w a2 n2 c2 next) (h8 : next.length ≤ 8) :
    Calls Tryz.prog 94 #[.slice a n c, .slice a2 n2 c2] w fun e w' => e = .returned (.bool (accB acc next)) ∧ w = w' := by
  have HA := Lib.hid A.arg
  have HR := Lib.hid A.rng
  have HL := Lib.hid A.arg.len
  have HN := Lib.hid N
  have HNL := Lib.hid N.len
  have hbig : n ≤ 17592186044416 := A.few
  have hn8 : n2 ≤ 8 := by have := N.len; omega
  have H8 := Lib.hid h8
  clear A N h8
  go_enter Tryz.func94, Tryz.ntmps94
  go_wp2
  go_loop [5, 6, 7, 12] (fun q _ _ i => ∃ j t : Nat, j ≤ n2 ∧ i = .int .i64 j ∧ q = .int .i64 t ∧ t < 256 ∧ Hid (t = leadN next j)) (fun _ _ _ i => n2 - (intOf i).toNat)
  case atStart => exact ⟨0, 0, Nat.zero_le _, rfl, rfl, by decide, Lib.hid rfl⟩
  case round =>
    obtain ⟨j, t, hj, rfl, rfl, ht, htb⟩ := hrel
    by_cases hlt : j < n2
    · obtain ⟨bl, ol, rfl, c1⟩ := HN.out.cells j (by have := HNL.out; omega)
      obtain ⟨x, HX⟩ : ∃ x, Hid (next.getD j 0 = x) := ⟨_, Lib.hid rfl⟩
      rw [HX.out] at c1
      by_cases hm : x = -1
      · have hne : (x != -1) = false := by rw [bne_eq_false_iff_eq]; exact hm
        have HT : Hid (t = leadN next (j + 1)) := Lib.hid (by rw [leadN, if_neg (by rw [HX.out, hm]; simp)]; exact htb.out)
        clear hm
        go_wp2
        go_round
        case rel => exact ⟨j + 1, t, by omega, by go_num, rfl, ht, HT⟩
        case measure => simp [intOf]; omega
      · have hne : (x != -1) = true := by rw [bne_iff_ne]; exact hm
        obtain ⟨R, HRr⟩ : ∃ R : Nat, Hid (R = t ||| 2 ^ j) := ⟨_, Lib.hid rfl⟩
        have hR : R < 256 := by rw [HRr.out]; exact Nat.or_lt_two_pow (n := 8) ht (Nat.pow_lt_pow_right (by decide) (by omega))
        have HT : Hid (R = leadN next (j + 1)) := Lib.hid (by rw [leadN, if_pos (by rw [HX.out]; exact hm), ← htb.out]; exact HRr.out)
        have HO : Hid (bits .or .i64 (t : Int) (wrap64 (2 ^ j)) = (R : Int)) := Lib.hid (by
          have h2 := pow_le j (by omega)
          have h3 : ((2 ^ j : Nat) : Int) = (2 : Int) ^ j := by norm_cast
          have h4 : 2 ^ j < 256 := Nat.pow_lt_pow_right (n := 8) (by decide) (by omega)
          rw [IntWalk.wrap64_in _ ⟨by omega, by omega⟩, ← h3, HRr.out]
          exact i64_or_nat t _ (by omega) (by omega))
        clear hm
        go_wp2
        rw [HO.out]
        go_wp2
        go_round
        case rel => exact ⟨j + 1, R, by omega, by go_num, rfl, hR, HT⟩
        case measure => simp [intOf]; omega
    · have HT : Hid (t = leadN next next.length) := Lib.hid (by rw [htb.out, show j = next.length from by have := HNL.out; omega])
      go_wp2
      go_loop [8, 9, 26] (fun _ _ i => ∃ y : Nat, y ≤ n ∧ i = .int .i64 y ∧ Hid (∀ z, z < y → okSet next (acc.getD z 0) = true ∧ risB acc z = true)) (fun _ _ i => n - (intOf i).toNat)
      case atStart => exact ⟨0, Nat.zero_le _, rfl, Lib.hid fun x hx => by omega⟩
      case round =>
        obtain ⟨y, hy, rfl, hg⟩ := hrel
        by_cases hlt2 : y < n
        · obtain ⟨bl, ol, rfl, c1⟩ := HA.out.cells y (by have := HL.out; omega)
          obtain ⟨x, HX⟩ : ∃ x, Hid (acc.getD y 0 = x) := ⟨_, Lib.hid rfl⟩
          have hrx := HR.out y (by have := HL.out; omega)
          rw [HX.out] at c1 hrx
          have hos := okSet_lead H8.out x hrx.1 hrx.2
          rw [← HT.out] at hos
          cases hok : okSet next x
          · have hq : (bits .andNot .i64 x (t : Int) != 0) = true := by rw [bne_iff_ne]; intro e; rw [hos.1 e] at hok; cases hok
            have HB : Hid (accB acc next = false) := Lib.hid (accB_bad (i := y) (by have := HL.out; omega) (.inl (by rw [HX.out]; exact hok)))
            clear hok hos
            go_wp2
            go_ret
            exact ⟨by rw [HB.out]; rfl, rfl⟩
          · have hq : (bits .andNot .i64 x (t : Int) != 0) = false := by rw [bne_eq_false_iff_eq]; exact hos.2 hok
            have HOk : Hid (okSet next (acc.getD y 0) = true) := Lib.hid (by rw [HX.out]; exact hok)
            clear hok hos
            by_cases h0 : 0 < y
            · obtain ⟨p, rfl⟩ : ∃ p, y = p + 1 := ⟨y - 1, by omega⟩
              obtain ⟨bl', ol', e, c3⟩ := HA.out.cells p (by have := HL.out; omega)
              cases e
              obtain ⟨z, HZ⟩ : ∃ z, Hid (acc.getD p 0 = z) := ⟨_, Lib.hid rfl⟩
              rw [HZ.out] at c3
              have hg1 : decide ((0 : Int) < (p + 1 : Nat)) = true := decide_eq_true (by omega)
              have hk1 : IntKind.i64.wrap (p : Int) = (p : Int) := IntWalk.i64_in _ (by omega)
              have hk2 : (0 : Int) ≤ (p : Int) := by omega
              have hk4 : (p : Int) < n := by omega
              by_cases hzx : z < x
              · have HG : Hid (∀ q, q < p + 1 + 1 → okSet next (acc.getD q 0) = true ∧ risB acc q = true) := Lib.hid fun q hq => by
                  by_cases e : q = p + 1
                  · rw [e]
                    refine ⟨HOk.out, ?_⟩
                    unfold risB
                    rw [Nat.add_sub_cancel, HX.out, HZ.out, decide_eq_true hzx, Bool.or_true]
                  · exact hg.out q (by omega)
                have hzx2 : ¬ x ≤ z := by omega
                go_wp2
                go_round
                case rel => exact ⟨p + 1 + 1, by omega, by go_num, HG⟩
                case measure => simp [intOf]; omega
              · have HB : Hid (accB acc next = false) := Lib.hid (accB_bad (i := p + 1) (by have := HL.out; omega) (.inr (by
                  unfold risB
                  rw [Nat.add_sub_cancel, HX.out, HZ.out, decide_eq_false hzx]
                  simp)))
                have hzx2 : x ≤ z := by omega
                go_wp2
                go_ret
                exact ⟨by rw [HB.out]; rfl, rfl⟩
            · have hg1 : decide ((0 : Int) < y) = false := decide_eq_false (by omega)
              have HG : Hid (∀ q, q < y + 1 → okSet next (acc.getD q 0) = true ∧ risB acc q = true) := Lib.hid fun q hq => by
                obtain rfl : q = y := by omega
                refine ⟨HOk.out, ?_⟩
                unfold risB
                rw [decide_eq_true (show q = 0 by omega), Bool.true_or]
              go_wp2
              go_round
              case rel => exact ⟨y + 1, by omega, by go_num, HG⟩
              case measure => simp [intOf]; omega
        · have HB : Hid (accB acc next = true) := Lib.hid ((accB_iff _ _).2 fun z hz => hg.out z (by have := HL.out; omega))
          go_wp2
          go_ret
          exact ⟨by rw [HB.out]; rfl, rfl⟩
end Go.Proofs.YtgpfpnenpgnogaaGreatDoor
/- A system in memory; the reference's Few; system.Check. -/
namespace Go.Proofs.YtgpfpnenpgnogaaGreatDoor
open Go.RowKit Pl

/-- the lists of edges of the states -/
def RowsIn (w : World) (b : Option Addr) (ss : List (List Edg)) : Prop :=
  ∀ i, i < ss.length → ∃ bb off, b = some ⟨bb, off, none⟩ ∧ ∃ ai ni ci, w.cell? ⟨bb, off + i, none⟩ = some (.slice ai ni ci) ∧ EdgeArg w ai ni ci (stAt ss i)
theorem RowsIn.below {w w' : World} {b : Option Addr} {ss : List (List Edg)} (h : RowsIn w b ss) (hb : Below w.heap.size w w') : RowsIn w' b ss := fun i hi => by
  obtain ⟨bb, off, e, ai, ni, ci, h1, h2⟩ := h i hi
  exact ⟨bb, off, e, ai, ni, ci, (hb.cell (lt_of_cell h1)).trans h1, h2.below hb⟩
/-- a system as its two slices hold it -/
structure SysArg (w : World) (a : Option Addr) (n c : Nat) (b : Option Addr) (k d : Nat) (m : Syst) : Prop where
  acts : StrArg w a n c m.acts
  abig : n ≤ 140737488355328
  nil : b = none → d = 0
  len : k = m.states.length
  cap : k ≤ d
  big : k ≤ 140737488355328
  rows : RowsIn w b m.states
theorem SysArg.below {w w' : World} {a : Option Addr} {n c : Nat} {b : Option Addr} {k d : Nat} {m : Syst} (h : SysArg w a n c b k d m) (hb : Below w.heap.size w w') : SysArg w' a n c b k d m :=
  ⟨h.acts.below hb, h.abig, h.nil, h.len, h.cap, h.big, h.rows.below hb⟩

theorem fewB_no {m : Syst} {most i : Nat} (h : most < m.acts.length + m.states.length + total (m.states.take i)) : fewB m most = false := by
  have := total_take_le m.states i
  rw [Bool.eq_false_iff, Ne, fewB_iff]; omega
theorem Few_any {w : World} {a : Option Addr} {n c : Nat} {b : Option Addr} {k d : Nat} {m : Syst} (most : Nat) (hm : most ≤ 4611686018427387904) (A : SysArg w a n c b k d m) :
    Calls Tryz.prog 6 #[.agg #[.slice a n c, .slice b k d], .int .i64 most] w fun e w' => e = .returned (.bool (fewB m most)) ∧ w.alloc (.cells #[.slice a n c, .slice b k d] 25) = w' := by
  have HA := Lib.hid A
  have h1 : n ≤ 140737488355328 := A.abig
  have h2 : k ≤ 140737488355328 := by have := A.cap; have := A.big; omega
  have hB := (Below.refl w.heap.size w).alloc (Nat.le_refl _) (.cells #[.slice a n c, .slice b k d] 25)
  have HR := Lib.hid (A.rows.below hB)
  clear A hB
  go_enter Tryz.func6, Tryz.ntmps6
  go_wp2
  go_loop [5, 6] (fun s i => ∃ j t : Nat, j ≤ k ∧ i = .int .i64 j ∧ s = .int .i64 t ∧ Hid (t = m.acts.length + m.states.length + total (m.states.take j)) ∧ t ≤ 4611686018427387904 + 140737488355328) (fun _ i => k - (intOf i).toNat)
  case atStart => exact ⟨0, n + k, Nat.zero_le _, rfl, by go_num, Lib.hid (by have := HA.out.len; have := HA.out.acts.len; simp [total]; omega), by omega⟩
  case round =>
    obtain ⟨j, t, hj, rfl, rfl, ht, htb⟩ := hrel
    by_cases hlt : j < k
    · by_cases hle : t ≤ most
      · obtain ⟨bb, off, rfl, ai, ni, ci, c1, hE⟩ := HR.out j (by have := HA.out.len; omega)
        have h3 : ni ≤ 140737488355328 := by have := hE.cap; have := hE.big; omega
        have HT : Hid (t + ni = m.acts.length + m.states.length + total (m.states.take (j + 1))) := Lib.hid (by
          have := ht.out; have := total_take m.states j (by have := HA.out.len; omega); have := hE.len; omega)
        have HE := Lib.hid hE
        clear hE
        go_wp2
        go_round
        case rel => exact ⟨j + 1, t + ni, by omega, by go_num, by go_num, HT, by omega⟩
        case measure => simp [intOf]; omega
      · have HB := Lib.hid (fewB_no (m := m) (most := most) (i := j) (by have := ht.out; omega))
        go_wp2
        go_ret
        exact ⟨by rw [HB.out]; rfl, rfl⟩
    · have HT : Hid (fewB m most = decide (t ≤ most)) := Lib.hid (by
        have := ht.out
        rw [List.take_of_length_le (by have := HA.out.len; omega)] at this
        rw [this]; rfl)
      by_cases hle : t ≤ most
      · have HB : Hid (fewB m most = true) := Lib.hid (by rw [HT.out]; exact decide_eq_true hle)
        go_wp2
        go_ret
        exact ⟨by rw [HB.out]; rfl, rfl⟩
      · have HB : Hid (fewB m most = false) := Lib.hid (by rw [HT.out]; exact decide_eq_false hle)
        go_wp2
        go_ret
        exact ⟨by rw [HB.out]; rfl, rfl⟩

/-- what Check answers -/
def chk (m : Syst) : Int := if sysB m = true then 0 else 20
theorem chk_yes {m : Syst} (h : sysB m = true) : chk m = 0 := if_pos h
theorem chk_no {m : Syst} (h : sysB m = false) : chk m = 20 := by unfold chk; rw [h]; rfl
set_option maxHeartbeats 1000000 in
/-- system.Check -/
theorem SCheck_any {w : World} {a : Option Addr} {n c : Nat} {b : Option Addr} {k d : Nat} {m : Syst} {e0 e1 e2 : Addr} (E : Errs w e0 e1 e2) (A : SysArg w a n c b k d m) :
    Calls Tryz.prog 51 #[.agg #[.slice a n c, .slice b k d]] w fun e w' => e = .returned (.int .i64 (chk m)) ∧ Below w.heap.size w w' := by
  have hB := (Below.refl w.heap.size w).alloc (Nat.le_refl _) (.cells #[.slice a n c, .slice b k d] 25)
  have HC := Lib.hid (Check_any (E.below hB) (A.acts.below hB))
  have HA := Lib.hid A
  have h1 : n ≤ 140737488355328 := A.abig
  have h2 : k ≤ 140737488355328 := by have := A.cap; have := A.big; omega
  have HR := Lib.hid (A.rows.below hB)
  have HBB := Lib.hid hB
  clear A hB E
  cases ha : actsB m.acts
  · have HB := Lib.hid (chk_no (sysB_acts ha))
    rw [ha] at HC
    clear ha
    go_enter Tryz.func51, Tryz.ntmps51
    go_wp2_with fail
    refine HC.out.mono ?_
    rintro e w' ⟨rfl, rfl⟩
    go_wp2
    go_ret
    exact ⟨by rw [HB.out]; rfl, HBB.out⟩
  · rw [ha] at HC
    have HAC := Lib.hid ha
    clear ha
    by_cases hk : 1 ≤ k ∧ k ≤ 5000
    · obtain ⟨hk1, hk2⟩ := hk
      go_enter Tryz.func51, Tryz.ntmps51
      go_wp2_with fail
      refine HC.out.mono ?_
      rintro e w' ⟨rfl, rfl⟩
      go_wp2
      go_loopw [3, 5, 25] (fun s _ i wr => ∃ j t : Nat, j ≤ k ∧ i = .int .i64 j ∧ s = .int .i64 t ∧ Hid (t = total (m.states.take j) ∧ ∀ x, x < j → edgesB m.acts.length m.states.length (stAt m.states x) = true) ∧ t ≤ 400000 ∧ Below (w.heap.size + 1) (w.alloc (.cells #[.slice a n c, .slice b k d] 25)) wr) (fun _ _ i _ => k - (intOf i).toNat)
      case atStart => exact ⟨0, 0, Nat.zero_le _, rfl, rfl, Lib.hid ⟨by simp [total], fun x hx => by omega⟩, by omega, Below.refl _ _⟩
      case round =>
        obtain ⟨j, t, hj, rfl, rfl, ht, htb, hb⟩ := hrel
        have hb' : Below (w.alloc (.cells #[.slice a n c, .slice b k d] 25)).heap.size (w.alloc (.cells #[.slice a n c, .slice b k d] 25)) wr := hb.mono (by simp)
        by_cases hlt : j < k
        · obtain ⟨bb, off, rfl, ai, ni, ci, c1, hE⟩ := (HR.out.below hb') j (by have := HA.out.len; omega)
          have c2 : wr.cell? ⟨w.heap.size, 0, none⟩ = some (.slice a n c) := by rw [hb'.cell (by simp)]; simp
          have c3 : wr.cell? ⟨w.heap.size, 1, none⟩ = some (.slice (some ⟨bb, off, none⟩) k d) := by rw [hb'.cell (by simp)]; simp
          have h3 : ni ≤ 140737488355328 := by have := hE.cap; have := hE.big; omega
          have HE := Lib.hid (areEdges_any (w := wr) n k (by omega) (by omega) hE)
          have HT : Hid (t + ni = total (m.states.take (j + 1))) := Lib.hid (by
            have := ht.out.1; have := total_take m.states j (by have := HA.out.len; omega); have := hE.len; omega)
          clear hE
          by_cases hle : t + ni ≤ 400000
          · cases hes : edgesB n k (stAt m.states j)
            · have HB := Lib.hid (chk_no (m := m) (sysB_edges j (by have := HA.out.len; omega) (by rw [← HA.out.len, ← HA.out.acts.len]; exact hes)))
              rw [hes] at HE
              clear hes
              go_wp2_with fail
              refine HE.out.mono ?_
              rintro e w1 ⟨rfl, hb1⟩
              go_wp2
              go_ret
              exact ⟨by rw [HB.out]; rfl, (HBB.out.trans (hb'.mono HBB.out.size)).trans (hb1.mono (Nat.le_trans HBB.out.size hb'.size))⟩
            · have HG : Hid (t + ni = total (m.states.take (j + 1)) ∧ ∀ x, x < j + 1 → edgesB m.acts.length m.states.length (stAt m.states x) = true) := Lib.hid ⟨HT.out, fun x hx => by
                by_cases e : x = j
                · rw [e, ← HA.out.len, ← HA.out.acts.len]; exact hes
                · exact ht.out.2 x (by omega)⟩
              rw [hes] at HE
              clear hes
              go_wp2_with fail
              refine HE.out.mono ?_
              rintro e w1 ⟨rfl, hb1⟩
              go_wp2
              go_roundw
              case rel => exact ⟨j + 1, t + ni, by omega, by go_num, by go_num, HG, hle, hb.trans (hb1.mono (by have := hb'.size; simp at this; omega))⟩
              case measure => simp [intOf]; omega
          · have HB := Lib.hid (chk_no (m := m) (sysB_total (by have := HT.out; have := total_take_le m.states (j + 1); omega)))
            go_wp2
            go_ret
            exact ⟨by rw [HB.out]; rfl, HBB.out.trans (hb'.mono HBB.out.size)⟩
        · have HB := Lib.hid (chk_yes (m := m) (sysB_good HAC.out (by have := HA.out.len; omega) (by have := HA.out.len; omega) (fun i hi => ht.out.2 i (by have := HA.out.len; omega)) (by
            have := ht.out.1
            rw [List.take_of_length_le (by have := HA.out.len; omega)] at this
            omega)))
          go_wp2
          go_ret
          exact ⟨by rw [HB.out]; rfl, HBB.out.trans (hb'.mono HBB.out.size)⟩
    · have HB : Hid (chk m = 20) := Lib.hid (by
        by_cases h : k < 1
        · exact chk_no (sysB_few (by have := HA.out.len; omega))
        · exact chk_no (sysB_many (by have := HA.out.len; omega)))
      by_cases hk1 : k < 1
      · go_enter Tryz.func51, Tryz.ntmps51
        go_wp2_with fail
        refine HC.out.mono ?_
        rintro e w' ⟨rfl, rfl⟩
        go_wp2
        go_ret
        exact ⟨by rw [HB.out]; rfl, HBB.out⟩
      · have hk2 : 5000 < k := by omega
        go_enter Tryz.func51, Tryz.ntmps51
        go_wp2_with fail
        refine HC.out.mono ?_
        rintro e w' ⟨rfl, rfl⟩
        go_wp2
        go_ret
        exact ⟨by rw [HB.out]; rfl, HBB.out⟩
end Go.Proofs.YtgpfpnenpgnogaaGreatDoor
