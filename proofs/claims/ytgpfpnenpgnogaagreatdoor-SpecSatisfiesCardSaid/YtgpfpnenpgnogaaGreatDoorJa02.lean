/- Texts joined: Names. -/
import Derived.Test.YtgpfpnenpgnogaaGreatDoorChecked
import Derived.Test.YtgpfpnenpgnogaaGreatDoorJa00
import Derived.WalkKit
import Derived.WalkSpells
import Derived.WalkLawsBesides
import Derived.IntWalk
import Derived.BigGuard
import Derived.Lib.Hide
/- The contracts of the functions about names: each only computes. -/
namespace Go.Proofs.YtgpfpnenpgnogaaGreatDoor
open Go.RowKit Pl

theorem ret_int {k : IntKind} {a b : Int} (h : a = b) : Ending.returned (.int k a) = .returned (.int k b) := by rw [h]
theorem ret_bool {a b : Bool} (h : a = b) : Ending.returned (.bool a) = .returned (.bool b) := by rw [h]

theorem letter_any (c : Int) (w : World) :
    Calls Tryz.prog 115 #[.int .u8 c] w fun e w' => e = .returned (.bool (letB c)) ∧ w = w' := by
  have hL := letB_iff c
  by_cases a1 : 97 ≤ c <;> by_cases a2 : c ≤ 122 <;> by_cases a3 : 65 ≤ c <;> by_cases a4 : c ≤ 90 <;> try (exfalso; omega)
  all_goals
    have HB : Hid (letB c = decide ((97 ≤ c ∧ c ≤ 122) ∨ (65 ≤ c ∧ c ≤ 90))) := Lib.hid (by rw [Bool.eq_iff_iff, hL]; simp)
    clear hL
    go_enter Tryz.func115, Tryz.ntmps115
    go_wp2
    go_ret
    refine ⟨?_, rfl⟩
    rw [HB.out]
    simp [*]
theorem isLetter_any (c : Int) (w : World) :
    Calls Tryz.prog 168 #[.int .u8 c] w fun e w' => e = .returned (.bool (letB c)) ∧ w = w' := by
  have hL := letB_iff c
  by_cases a1 : 97 ≤ c <;> by_cases a2 : c ≤ 122 <;> by_cases a3 : 65 ≤ c <;> by_cases a4 : c ≤ 90 <;> try (exfalso; omega)
  all_goals
    have HB : Hid (letB c = decide ((97 ≤ c ∧ c ≤ 122) ∨ (65 ≤ c ∧ c ≤ 90))) := Lib.hid (by rw [Bool.eq_iff_iff, hL]; simp)
    clear hL
    go_enter Tryz.func168, Tryz.ntmps168
    go_wp2
    go_ret
    refine ⟨?_, rfl⟩
    rw [HB.out]
    simp [*]

/-- both ways of isLetter apart, for tests -/
theorem isLetter_yes (c : Int) (w : World) (h : letB c = true) : Calls Tryz.prog 168 #[.int .u8 c] w fun e w' => e = .returned (.bool true) ∧ w = w' := by
  rw [← h]; exact isLetter_any c w
theorem isLetter_no (c : Int) (w : World) (h : letB c = false) : Calls Tryz.prog 168 #[.int .u8 c] w fun e w' => e = .returned (.bool false) ∧ w = w' := by
  rw [← h]; exact isLetter_any c w
theorem letter_yes (c : Int) (w : World) (h : letB c = true) : Calls Tryz.prog 115 #[.int .u8 c] w fun e w' => e = .returned (.bool true) ∧ w = w' := by
  rw [← h]; exact letter_any c w
theorem letter_no (c : Int) (w : World) (h : letB c = false) : Calls Tryz.prog 115 #[.int .u8 c] w fun e w' => e = .returned (.bool false) ∧ w = w' := by
  rw [← h]; exact letter_any c w

theorem isNameByte_any (c : Int) (w : World) :
    Calls Tryz.prog 169 #[.int .u8 c] w fun e w' => e = .returned (.bool (nmB c)) ∧ w = w' := by
  have hN := nmB_iff c
  cases hl : letB c
  · by_cases a3 : c = 45
    · subst a3
      have HL : Hid (letB 45 = false) := Lib.hid hl
      clear hN hl
      go_enter Tryz.func169, Tryz.ntmps169
      go_wp2_with (go_at_call 168; refine (isLetter_no _ _ HL).mono ?_; rintro e w' ⟨rfl, rfl⟩)
      go_ret
      exact ⟨rfl, rfl⟩
    by_cases a4 : c = 95
    · subst a4
      have HL : Hid (letB 95 = false) := Lib.hid hl
      clear hN hl a3
      go_enter Tryz.func169, Tryz.ntmps169
      go_wp2_with (go_at_call 168; refine (isLetter_no _ _ HL).mono ?_; rintro e w' ⟨rfl, rfl⟩)
      go_ret
      exact ⟨rfl, rfl⟩
    have b3 : (c == 45) = false := beq_eq_false_iff_ne.2 a3
    have b4 : (c == 95) = false := beq_eq_false_iff_ne.2 a4
    by_cases a1 : 48 ≤ c <;> by_cases a2 : c ≤ 57 <;> try (exfalso; omega)
    all_goals
      have HB : Hid (nmB c = decide (48 ≤ c ∧ c ≤ 57)) := Lib.hid (by rw [Bool.eq_iff_iff, hN, hl]; simp [a3, a4])
      have HL : Hid (letB c = false) := Lib.hid hl
      clear hN hl a3 a4
      go_enter Tryz.func169, Tryz.ntmps169
      go_wp2_with (go_at_call 168; refine (isLetter_no _ _ HL).mono ?_; rintro e w' ⟨rfl, rfl⟩)
      go_ret
      refine ⟨?_, rfl⟩
      rw [HB.out]
      simp [*]
  · have HB : Hid (nmB c = true) := Lib.hid (hN.2 (.inl hl))
    have HL : Hid (letB c = true) := Lib.hid hl
    clear hN hl
    go_enter Tryz.func169, Tryz.ntmps169
    go_wp2_with (go_at_call 168; refine (isLetter_yes _ _ HL).mono ?_; rintro e w' ⟨rfl, rfl⟩)
    go_ret
    exact ⟨by rw [HB.out]; rfl, rfl⟩
theorem isNameByte_yes (c : Int) (w : World) (h : nmB c = true) : Calls Tryz.prog 169 #[.int .u8 c] w fun e w' => e = .returned (.bool true) ∧ w = w' := by
  rw [← h]; exact isNameByte_any c w
theorem isNameByte_no (c : Int) (w : World) (h : nmB c = false) : Calls Tryz.prog 169 #[.int .u8 c] w fun e w' => e = .returned (.bool false) ∧ w = w' := by
  rw [← h]; exact isNameByte_any c w

set_option maxHeartbeats 400000 in
/-- act.isName: whether the string is a name. -/
theorem isName_any (s : ByteArray) (w : World) (hs : s.size ≤ 9223372036854775807) :
    Calls Tryz.prog 137 #[.string s] w fun e w' => e = .returned (.bool (nameB s)) ∧ w = w' := by
  by_cases h1 : s.size = 0
  · have HB := Lib.hid (nameB_short s (by omega))
    have g1 : (s.size == 0) = true := by simpa using h1
    have g2 : ((s.size : Int) == 0) = true := by simpa using h1
    clear h1
    go_enter Tryz.func137, Tryz.ntmps137
    go_wp2
    go_ret
    exact ⟨by rw [HB.out]; rfl, rfl⟩
  have g2 : ((s.size : Int) == 0) = false := by rw [beq_eq_false_iff_ne]; omega
  by_cases h2 : 20 < s.size
  · have HB := Lib.hid (nameB_long s (by omega))
    clear h1
    go_enter Tryz.func137, Tryz.ntmps137
    go_wp2
    go_ret
    exact ⟨by rw [HB.out]; rfl, rfl⟩
  have hp : 0 < s.size := by omega
  have H0 := Lib.hid (byteAt_lt s 0 hp)
  cases h3 : letB (byteAt s 0)
  · have HB := Lib.hid (nameB_head s h3)
    have HL : Hid (letB (s[0].toNat : Int) = false) := Lib.hid (by rw [← H0.out]; exact h3)
    clear h1 h3
    go_enter Tryz.func137, Tryz.ntmps137
    go_wp2_with (go_at_call 168; refine (isLetter_no _ _ HL).mono ?_; rintro e w' ⟨rfl, rfl⟩)
    go_ret
    exact ⟨by rw [HB.out]; rfl, rfl⟩
  have H3 := Lib.hid h3
  have HL : Hid (letB (s[0].toNat : Int) = true) := Lib.hid (by rw [← H0.out]; exact h3)
  clear h1 h3
  go_enter Tryz.func137, Tryz.ntmps137
  go_wp2_with (go_at_call 168; refine (isLetter_yes _ _ HL).mono ?_; rintro e w' ⟨rfl, rfl⟩)
  go_loop [3, 20] (fun _ i => ∃ k : Nat, k ≤ s.size ∧ i = .int .i64 k ∧ Hid (∀ j, j < k → nmB (byteAt s j) = true)) (fun _ i => s.size - (intOf i).toNat)
  case atStart => exact ⟨0, Nat.zero_le _, rfl, Lib.hid fun j hj => absurd hj (Nat.not_lt_zero _)⟩
  case round =>
    obtain ⟨k, hk, rfl, hall⟩ := hrel
    by_cases hlt : k < s.size
    · have Hk := Lib.hid (byteAt_lt s k hlt)
      cases hn : nmB (byteAt s k)
      · have HB := Lib.hid (nameB_bad s k hlt hn)
        have HN : Hid (nmB (s[k].toNat : Int) = false) := Lib.hid (by rw [← Hk.out]; exact hn)
        clear hn
        go_wp2_with (go_at_call 169; refine (isNameByte_no _ _ HN).mono ?_; rintro e w' ⟨rfl, rfl⟩)
        go_ret
        exact ⟨by rw [HB.out]; rfl, rfl⟩
      · have HN : Hid (nmB (s[k].toNat : Int) = true) := Lib.hid (by rw [← Hk.out]; exact hn)
        have hall' : Hid (∀ j, j < k + 1 → nmB (byteAt s j) = true) := Lib.hid fun j hj => by
          by_cases e : j = k
          · rw [e]; exact hn
          · exact hall.out j (by omega)
        clear hn
        go_wp2_with (go_at_call 169; refine (isNameByte_yes _ _ HN).mono ?_; rintro e w' ⟨rfl, rfl⟩)
        go_round
        case rel => exact ⟨k + 1, by omega, by go_num, hall'⟩
        case measure => simp [intOf]; omega
    · have HB := Lib.hid (nameB_good s (by omega) (by omega) H3.out (fun j hj => hall.out j (by omega)))
      go_wp2
      go_ret
      exact ⟨by rw [HB.out]; rfl, rfl⟩

set_option maxHeartbeats 400000 in
/-- the reference's Name: the same -/
theorem Name_any (s : ByteArray) (w : World) (hs : s.size ≤ 9223372036854775807) :
    Calls Tryz.prog 89 #[.string s] w fun e w' => e = .returned (.bool (nameB s)) ∧ w = w' := by
  by_cases h1 : s.size < 1
  · have HB := Lib.hid (nameB_short s (by omega))
    go_enter Tryz.func89, Tryz.ntmps89
    go_wp2
    go_ret
    exact ⟨by rw [HB.out]; rfl, rfl⟩
  by_cases h2 : 20 < s.size
  · have HB := Lib.hid (nameB_long s (by omega))
    go_enter Tryz.func89, Tryz.ntmps89
    go_wp2
    go_ret
    exact ⟨by rw [HB.out]; rfl, rfl⟩
  have hp : 0 < s.size := by omega
  have H0 := Lib.hid (byteAt_lt s 0 hp)
  cases h3 : letB (byteAt s 0)
  · have HB := Lib.hid (nameB_head s h3)
    have HL : Hid (letB (s[0].toNat : Int) = false) := Lib.hid (by rw [← H0.out]; exact h3)
    clear h3
    go_enter Tryz.func89, Tryz.ntmps89
    go_wp2_with (go_at_call 115; refine (letter_no _ _ HL).mono ?_; rintro e w' ⟨rfl, rfl⟩)
    go_ret
    exact ⟨by rw [HB.out]; rfl, rfl⟩
  have H3 := Lib.hid h3
  have HL : Hid (letB (s[0].toNat : Int) = true) := Lib.hid (by rw [← H0.out]; exact h3)
  clear h3
  go_enter Tryz.func89, Tryz.ntmps89
  go_wp2_with (go_at_call 115; refine (letter_yes _ _ HL).mono ?_; rintro e w' ⟨rfl, rfl⟩)
  go_loop [3, 4, 21] (fun _ _ i => ∃ k : Nat, k ≤ s.size ∧ i = .int .i64 k ∧ Hid (∀ j, j < k → nmB (byteAt s j) = true)) (fun _ _ i => s.size - (intOf i).toNat)
  case atStart => exact ⟨0, Nat.zero_le _, rfl, Lib.hid fun j hj => absurd hj (Nat.not_lt_zero _)⟩
  case round =>
    obtain ⟨k, hk, rfl, hall⟩ := hrel
    by_cases hlt : k < s.size
    · have Hk := Lib.hid (byteAt_lt s k hlt)
      have hn := nmB_iff (s[k].toNat : Int)
      cases hb : nmB (s[k].toNat : Int)
      · have HB := Lib.hid (nameB_bad s k hlt (by rw [Hk.out]; exact hb))
        rw [hb] at hn
        have HN : Hid (letB (s[k].toNat : Int) = false) := Lib.hid (by rw [Bool.eq_false_iff]; intro h; have := hn.2 (.inl h); cases this)
        have c1 : ((s[k].toNat : Int) != 45) = true := by rw [bne_iff_ne]; intro h; have := hn.2 (.inr (.inr (.inl h))); cases this
        have c2 : ((s[k].toNat : Int) != 95) = true := by rw [bne_iff_ne]; intro h; have := hn.2 (.inr (.inr (.inr h))); cases this
        by_cases d1 : (s[k].toNat : Int) < 48
        · clear hb hn
          go_wp2_with (go_at_call 115; refine (letter_no _ _ HN).mono ?_; rintro e w' ⟨rfl, rfl⟩)
          go_ret
          exact ⟨by rw [HB.out]; rfl, rfl⟩
        · have d2 : 57 < (s[k].toNat : Int) := by
            refine Int.not_le.1 fun h => ?_
            have := hn.2 (.inr (.inl ⟨by omega, h⟩)); cases this
          clear hb hn
          go_wp2_with (go_at_call 115; refine (letter_no _ _ HN).mono ?_; rintro e w' ⟨rfl, rfl⟩)
          go_ret
          exact ⟨by rw [HB.out]; rfl, rfl⟩
      · have hall' : Hid (∀ j, j < k + 1 → nmB (byteAt s j) = true) := Lib.hid fun j hj => by
          by_cases e : j = k
          · rw [e, Hk.out]; exact hb
          · exact hall.out j (by omega)
        cases hl : letB (s[k].toNat : Int)
        · have HN : Hid (letB (s[k].toNat : Int) = false) := Lib.hid hl
          have hd : (48 ≤ (s[k].toNat : Int) ∧ (s[k].toNat : Int) ≤ 57) ∨ (s[k].toNat : Int) = 45 ∨ (s[k].toNat : Int) = 95 := by
            rcases hn.1 hb with h | h
            · rw [hl] at h; cases h
            · exact h
          clear hb hl hn
          by_cases c1 : (s[k].toNat : Int) = 45
          · have e1 : ((s[k].toNat : Int) != 45) = false := by rw [c1]; rfl
            have e2 : (s[k].toNat : Int) < 48 := by omega
            clear hd c1
            go_wp2_with (go_at_call 115; refine (letter_no _ _ HN).mono ?_; rintro e w' ⟨rfl, rfl⟩)
            go_round
            case rel => exact ⟨k + 1, by omega, by go_num, hall'⟩
            case measure => simp [intOf]; omega
          have e1 : ((s[k].toNat : Int) != 45) = true := by rw [bne_iff_ne]; exact c1
          by_cases c2 : (s[k].toNat : Int) = 95
          · have e3 : ((s[k].toNat : Int) != 95) = false := by rw [c2]; rfl
            have e2 : 57 < (s[k].toNat : Int) := by omega
            clear hd c1 c2
            go_wp2_with (go_at_call 115; refine (letter_no _ _ HN).mono ?_; rintro e w' ⟨rfl, rfl⟩)
            go_round
            case rel => exact ⟨k + 1, by omega, by go_num, hall'⟩
            case measure => simp [intOf]; omega
          have e2 : 48 ≤ (s[k].toNat : Int) := by omega
          have e3 : (s[k].toNat : Int) ≤ 57 := by omega
          clear hd c1 c2
          go_wp2_with (go_at_call 115; refine (letter_no _ _ HN).mono ?_; rintro e w' ⟨rfl, rfl⟩)
          go_round
          case rel => exact ⟨k + 1, by omega, by go_num, hall'⟩
          case measure => simp [intOf]; omega
        · have HN : Hid (letB (s[k].toNat : Int) = true) := Lib.hid hl
          clear hb hl hn
          go_wp2_with (go_at_call 115; refine (letter_yes _ _ HN).mono ?_; rintro e w' ⟨rfl, rfl⟩)
          go_round
          case rel => exact ⟨k + 1, by omega, by go_num, hall'⟩
          case measure => simp [intOf]; omega
    · have HB := Lib.hid (nameB_good s (by omega) (by omega) H3.out (fun j hj => hall.out j (by omega)))
      go_wp2
      go_ret
      exact ⟨by rw [HB.out]; rfl, rfl⟩
end Go.Proofs.YtgpfpnenpgnogaaGreatDoor
