/- Texts joined: Names, Lists. -/
import Derived.Test.YtbncofgbpffmkaaGreatDoorChecked
import Derived.Test.YtbncofgbpffmkaaGreatDoorJc00
import Derived.WalkKit
import Derived.WalkSpells
import Derived.WalkLawsBesides
import Derived.IntWalk
import Derived.BigGuard
import Derived.Lib.Hide
/- The contracts of the functions about names: each only computes. -/
namespace Go.Proofs.YtbncofgbpffmkaaGreatDoor
open Go.RowKit Pl

theorem ret_int {k : IntKind} {a b : Int} (h : a = b) : Ending.returned (.int k a) = .returned (.int k b) := by rw [h]
theorem ret_bool {a b : Bool} (h : a = b) : Ending.returned (.bool a) = .returned (.bool b) := by rw [h]

theorem letter_any (c : Int) (w : World) :
    Calls Tryz.prog 77 #[.int .u8 c] w fun e w' => e = .returned (.bool (letB c)) ∧ w = w' := by
  have hL := letB_iff c
  by_cases a1 : 97 ≤ c <;> by_cases a2 : c ≤ 122 <;> by_cases a3 : 65 ≤ c <;> by_cases a4 : c ≤ 90 <;> try (exfalso; omega)
  all_goals
    have HB : Hid (letB c = decide ((97 ≤ c ∧ c ≤ 122) ∨ (65 ≤ c ∧ c ≤ 90))) := Lib.hid (by rw [Bool.eq_iff_iff, hL]; simp)
    clear hL
    go_enter Tryz.func77, Tryz.ntmps77
    go_wp2
    go_ret
    refine ⟨?_, rfl⟩
    rw [HB.out]
    simp [*]
theorem isLetter_any (c : Int) (w : World) :
    Calls Tryz.prog 98 #[.int .u8 c] w fun e w' => e = .returned (.bool (letB c)) ∧ w = w' := by
  have hL := letB_iff c
  by_cases a1 : 97 ≤ c <;> by_cases a2 : c ≤ 122 <;> by_cases a3 : 65 ≤ c <;> by_cases a4 : c ≤ 90 <;> try (exfalso; omega)
  all_goals
    have HB : Hid (letB c = decide ((97 ≤ c ∧ c ≤ 122) ∨ (65 ≤ c ∧ c ≤ 90))) := Lib.hid (by rw [Bool.eq_iff_iff, hL]; simp)
    clear hL
    go_enter Tryz.func98, Tryz.ntmps98
    go_wp2
    go_ret
    refine ⟨?_, rfl⟩
    rw [HB.out]
    simp [*]

/-- both ways of isLetter apart, for tests -/
theorem isLetter_yes (c : Int) (w : World) (h : letB c = true) : Calls Tryz.prog 98 #[.int .u8 c] w fun e w' => e = .returned (.bool true) ∧ w = w' := by
  rw [← h]; exact isLetter_any c w
theorem isLetter_no (c : Int) (w : World) (h : letB c = false) : Calls Tryz.prog 98 #[.int .u8 c] w fun e w' => e = .returned (.bool false) ∧ w = w' := by
  rw [← h]; exact isLetter_any c w
theorem letter_yes (c : Int) (w : World) (h : letB c = true) : Calls Tryz.prog 77 #[.int .u8 c] w fun e w' => e = .returned (.bool true) ∧ w = w' := by
  rw [← h]; exact letter_any c w
theorem letter_no (c : Int) (w : World) (h : letB c = false) : Calls Tryz.prog 77 #[.int .u8 c] w fun e w' => e = .returned (.bool false) ∧ w = w' := by
  rw [← h]; exact letter_any c w

theorem isNameByte_any (c : Int) (w : World) :
    Calls Tryz.prog 99 #[.int .u8 c] w fun e w' => e = .returned (.bool (nmB c)) ∧ w = w' := by
  have hN := nmB_iff c
  cases hl : letB c
  · by_cases a3 : c = 45
    · subst a3
      have HL : Hid (letB 45 = false) := Lib.hid hl
      clear hN hl
      go_enter Tryz.func99, Tryz.ntmps99
      go_wp2_with (go_at_call 98; refine (isLetter_no _ _ HL).mono ?_; rintro e w' ⟨rfl, rfl⟩)
      go_ret
      exact ⟨rfl, rfl⟩
    by_cases a4 : c = 95
    · subst a4
      have HL : Hid (letB 95 = false) := Lib.hid hl
      clear hN hl a3
      go_enter Tryz.func99, Tryz.ntmps99
      go_wp2_with (go_at_call 98; refine (isLetter_no _ _ HL).mono ?_; rintro e w' ⟨rfl, rfl⟩)
      go_ret
      exact ⟨rfl, rfl⟩
    have b3 : (c == 45) = false := beq_eq_false_iff_ne.2 a3
    have b4 : (c == 95) = false := beq_eq_false_iff_ne.2 a4
    by_cases a1 : 48 ≤ c <;> by_cases a2 : c ≤ 57 <;> try (exfalso; omega)
    all_goals
      have HB : Hid (nmB c = decide (48 ≤ c ∧ c ≤ 57)) := Lib.hid (by rw [Bool.eq_iff_iff, hN, hl]; simp [a3, a4])
      have HL : Hid (letB c = false) := Lib.hid hl
      clear hN hl a3 a4
      go_enter Tryz.func99, Tryz.ntmps99
      go_wp2_with (go_at_call 98; refine (isLetter_no _ _ HL).mono ?_; rintro e w' ⟨rfl, rfl⟩)
      go_ret
      refine ⟨?_, rfl⟩
      rw [HB.out]
      simp [*]
  · have HB : Hid (nmB c = true) := Lib.hid (hN.2 (.inl hl))
    have HL : Hid (letB c = true) := Lib.hid hl
    clear hN hl
    go_enter Tryz.func99, Tryz.ntmps99
    go_wp2_with (go_at_call 98; refine (isLetter_yes _ _ HL).mono ?_; rintro e w' ⟨rfl, rfl⟩)
    go_ret
    exact ⟨by rw [HB.out]; rfl, rfl⟩
theorem isNameByte_yes (c : Int) (w : World) (h : nmB c = true) : Calls Tryz.prog 99 #[.int .u8 c] w fun e w' => e = .returned (.bool true) ∧ w = w' := by
  rw [← h]; exact isNameByte_any c w
theorem isNameByte_no (c : Int) (w : World) (h : nmB c = false) : Calls Tryz.prog 99 #[.int .u8 c] w fun e w' => e = .returned (.bool false) ∧ w = w' := by
  rw [← h]; exact isNameByte_any c w

set_option maxHeartbeats 400000 in
/-- act.isName: whether the string is a name. -/
theorem isName_any (s : ByteArray) (w : World) (hs : s.size ≤ 9223372036854775807) :
    Calls Tryz.prog 79 #[.string s] w fun e w' => e = .returned (.bool (nameB s)) ∧ w = w' := by
  by_cases h1 : s.size = 0
  · have HB := Lib.hid (nameB_short s (by omega))
    have g1 : (s.size == 0) = true := by simpa using h1
    have g2 : ((s.size : Int) == 0) = true := by simpa using h1
    clear h1
    go_enter Tryz.func79, Tryz.ntmps79
    go_wp2
    go_ret
    exact ⟨by rw [HB.out]; rfl, rfl⟩
  have g2 : ((s.size : Int) == 0) = false := by rw [beq_eq_false_iff_ne]; omega
  by_cases h2 : 20 < s.size
  · have HB := Lib.hid (nameB_long s (by omega))
    clear h1
    go_enter Tryz.func79, Tryz.ntmps79
    go_wp2
    go_ret
    exact ⟨by rw [HB.out]; rfl, rfl⟩
  have hp : 0 < s.size := by omega
  have H0 := Lib.hid (byteAt_lt s 0 hp)
  cases h3 : letB (byteAt s 0)
  · have HB := Lib.hid (nameB_head s h3)
    have HL : Hid (letB (s[0].toNat : Int) = false) := Lib.hid (by rw [← H0.out]; exact h3)
    clear h1 h3
    go_enter Tryz.func79, Tryz.ntmps79
    go_wp2_with (go_at_call 98; refine (isLetter_no _ _ HL).mono ?_; rintro e w' ⟨rfl, rfl⟩)
    go_ret
    exact ⟨by rw [HB.out]; rfl, rfl⟩
  have H3 := Lib.hid h3
  have HL : Hid (letB (s[0].toNat : Int) = true) := Lib.hid (by rw [← H0.out]; exact h3)
  clear h1 h3
  go_enter Tryz.func79, Tryz.ntmps79
  go_wp2_with (go_at_call 98; refine (isLetter_yes _ _ HL).mono ?_; rintro e w' ⟨rfl, rfl⟩)
  go_loop [3, 20] (fun _ i => ∃ k : Nat, k ≤ s.size ∧ i = .int .i64 k ∧ Hid (∀ j, j < k → nmB (byteAt s j) = true)) (fun _ i => s.size - (intOf i).toNat)
  case atStart => exact ⟨0, Nat.zero_le _, rfl, Lib.hid fun j hj => absurd hj (Nat.not_lt_zero _)⟩
  case round =>
    obtain ⟨k, hk, rfl, hall⟩ := hrel
    by_cases hlt : k < s.size
    · have Hk := Lib.hid (byteAt_lt s k hlt)
      cases hn : nmB (byteAt s k)
      · have HB := Lib.hid (nameB_bad s k hlt hn)
        have HN : Hid (nmB (s[k].toNat : Int) = false) := Lib.hid (by rw [← Hk.out]; exact hn)
        clear hn
        go_wp2_with (go_at_call 99; refine (isNameByte_no _ _ HN).mono ?_; rintro e w' ⟨rfl, rfl⟩)
        go_ret
        exact ⟨by rw [HB.out]; rfl, rfl⟩
      · have HN : Hid (nmB (s[k].toNat : Int) = true) := Lib.hid (by rw [← Hk.out]; exact hn)
        have hall' : Hid (∀ j, j < k + 1 → nmB (byteAt s j) = true) := Lib.hid fun j hj => by
          by_cases e : j = k
          · rw [e]; exact hn
          · exact hall.out j (by omega)
        clear hn
        go_wp2_with (go_at_call 99; refine (isNameByte_yes _ _ HN).mono ?_; rintro e w' ⟨rfl, rfl⟩)
        go_round
        case rel => exact ⟨k + 1, by omega, by go_num, hall'⟩
        case measure => simp [intOf]; omega
    · have HB := Lib.hid (nameB_good s (by omega) (by omega) H3.out (fun j hj => hall.out j (by omega)))
      go_wp2
      go_ret
      exact ⟨by rw [HB.out]; rfl, rfl⟩

set_option maxHeartbeats 400000 in
/-- the reference's Name: the same -/
theorem Name_any (s : ByteArray) (w : World) (hs : s.size ≤ 9223372036854775807) :
    Calls Tryz.prog 57 #[.string s] w fun e w' => e = .returned (.bool (nameB s)) ∧ w = w' := by
  by_cases h1 : s.size < 1
  · have HB := Lib.hid (nameB_short s (by omega))
    go_enter Tryz.func57, Tryz.ntmps57
    go_wp2
    go_ret
    exact ⟨by rw [HB.out]; rfl, rfl⟩
  by_cases h2 : 20 < s.size
  · have HB := Lib.hid (nameB_long s (by omega))
    go_enter Tryz.func57, Tryz.ntmps57
    go_wp2
    go_ret
    exact ⟨by rw [HB.out]; rfl, rfl⟩
  have hp : 0 < s.size := by omega
  have H0 := Lib.hid (byteAt_lt s 0 hp)
  cases h3 : letB (byteAt s 0)
  · have HB := Lib.hid (nameB_head s h3)
    have HL : Hid (letB (s[0].toNat : Int) = false) := Lib.hid (by rw [← H0.out]; exact h3)
    clear h3
    go_enter Tryz.func57, Tryz.ntmps57
    go_wp2_with (go_at_call 77; refine (letter_no _ _ HL).mono ?_; rintro e w' ⟨rfl, rfl⟩)
    go_ret
    exact ⟨by rw [HB.out]; rfl, rfl⟩
  have H3 := Lib.hid h3
  have HL : Hid (letB (s[0].toNat : Int) = true) := Lib.hid (by rw [← H0.out]; exact h3)
  clear h3
  go_enter Tryz.func57, Tryz.ntmps57
  go_wp2_with (go_at_call 77; refine (letter_yes _ _ HL).mono ?_; rintro e w' ⟨rfl, rfl⟩)
  go_loop [3, 4, 21] (fun _ _ i => ∃ k : Nat, k ≤ s.size ∧ i = .int .i64 k ∧ Hid (∀ j, j < k → nmB (byteAt s j) = true)) (fun _ _ i => s.size - (intOf i).toNat)
  case atStart => exact ⟨0, Nat.zero_le _, rfl, Lib.hid fun j hj => absurd hj (Nat.not_lt_zero _)⟩
  case round =>
    obtain ⟨k, hk, rfl, hall⟩ := hrel
    by_cases hlt : k < s.size
    · have Hk := Lib.hid (byteAt_lt s k hlt)
      have hn := nmB_iff (s[k].toNat : Int)
      cases hb : nmB (s[k].toNat : Int)
      · have HB := Lib.hid (nameB_bad s k hlt (by rw [Hk.out]; exact hb))
        rw [hb] at hn
        have HN : Hid (letB (s[k].toNat : Int) = false) := Lib.hid (by rw [Bool.eq_false_iff]; intro h; have := hn.2 (.inl h); cases this)
        have c1 : ((s[k].toNat : Int) != 45) = true := by rw [bne_iff_ne]; intro h; have := hn.2 (.inr (.inr (.inl h))); cases this
        have c2 : ((s[k].toNat : Int) != 95) = true := by rw [bne_iff_ne]; intro h; have := hn.2 (.inr (.inr (.inr h))); cases this
        by_cases d1 : (s[k].toNat : Int) < 48
        · clear hb hn
          go_wp2_with (go_at_call 77; refine (letter_no _ _ HN).mono ?_; rintro e w' ⟨rfl, rfl⟩)
          go_ret
          exact ⟨by rw [HB.out]; rfl, rfl⟩
        · have d2 : 57 < (s[k].toNat : Int) := by
            refine Int.not_le.1 fun h => ?_
            have := hn.2 (.inr (.inl ⟨by omega, h⟩)); cases this
          clear hb hn
          go_wp2_with (go_at_call 77; refine (letter_no _ _ HN).mono ?_; rintro e w' ⟨rfl, rfl⟩)
          go_ret
          exact ⟨by rw [HB.out]; rfl, rfl⟩
      · have hall' : Hid (∀ j, j < k + 1 → nmB (byteAt s j) = true) := Lib.hid fun j hj => by
          by_cases e : j = k
          · rw [e, Hk.out]; exact hb
          · exact hall.out j (by omega)
        cases hl : letB (s[k].toNat : Int)
        · have HN : Hid (letB (s[k].toNat : Int) = false) := Lib.hid hl
          have hd : (48 ≤ (s[k].toNat : Int) ∧ (s[k].toNat : Int) ≤ 57) ∨ (s[k].toNat : Int) = 45 ∨ (s[k].toNat : Int) = 95 := by
            rcases hn.1 hb with h | h
            · rw [hl] at h; cases h
            · exact h
          clear hb hl hn
          by_cases c1 : (s[k].toNat : Int) = 45
          · have e1 : ((s[k].toNat : Int) != 45) = false := by rw [c1]; rfl
            have e2 : (s[k].toNat : Int) < 48 := by omega
            clear hd c1
            go_wp2_with (go_at_call 77; refine (letter_no _ _ HN).mono ?_; rintro e w' ⟨rfl, rfl⟩)
            go_round
            case rel => exact ⟨k + 1, by omega, by go_num, hall'⟩
            case measure => simp [intOf]; omega
          have e1 : ((s[k].toNat : Int) != 45) = true := by rw [bne_iff_ne]; exact c1
          by_cases c2 : (s[k].toNat : Int) = 95
          · have e3 : ((s[k].toNat : Int) != 95) = false := by rw [c2]; rfl
            have e2 : 57 < (s[k].toNat : Int) := by omega
            clear hd c1 c2
            go_wp2_with (go_at_call 77; refine (letter_no _ _ HN).mono ?_; rintro e w' ⟨rfl, rfl⟩)
            go_round
            case rel => exact ⟨k + 1, by omega, by go_num, hall'⟩
            case measure => simp [intOf]; omega
          have e2 : 48 ≤ (s[k].toNat : Int) := by omega
          have e3 : (s[k].toNat : Int) ≤ 57 := by omega
          clear hd c1 c2
          go_wp2_with (go_at_call 77; refine (letter_no _ _ HN).mono ?_; rintro e w' ⟨rfl, rfl⟩)
          go_round
          case rel => exact ⟨k + 1, by omega, by go_num, hall'⟩
          case measure => simp [intOf]; omega
        · have HN : Hid (letB (s[k].toNat : Int) = true) := Lib.hid hl
          clear hb hl hn
          go_wp2_with (go_at_call 77; refine (letter_yes _ _ HN).mono ?_; rintro e w' ⟨rfl, rfl⟩)
          go_round
          case rel => exact ⟨k + 1, by omega, by go_num, hall'⟩
          case measure => simp [intOf]; omega
    · have HB := Lib.hid (nameB_good s (by omega) (by omega) H3.out (fun j hj => hall.out j (by omega)))
      go_wp2
      go_ret
      exact ⟨by rw [HB.out]; rfl, rfl⟩
end Go.Proofs.YtbncofgbpffmkaaGreatDoor
/- Lists in memory, and the contracts of the functions that look lists through: each only computes. -/
namespace Go.Proofs.YtbncofgbpffmkaaGreatDoor
open Go.RowKit Pl

/-- the cells behind a slice's address hold these strings -/
def StrsIn (w : World) (a : Option Addr) (ss : List ByteArray) : Prop :=
  ∀ j, j < ss.length → ∃ b off, a = some ⟨b, off, none⟩ ∧ w.cell? ⟨b, off + j, none⟩ = some (.string (ss.getD j ByteArray.empty))
/-- the cells behind a slice's address hold these numbers -/
def IntsIn (w : World) (a : Option Addr) (xs : List Int) : Prop :=
  ∀ j, j < xs.length → ∃ b off, a = some ⟨b, off, none⟩ ∧ w.cell? ⟨b, off + j, none⟩ = some (.int .i64 (xs.getD j 0))
theorem StrsIn.take {w : World} {a : Option Addr} {ss : List ByteArray} (h : StrsIn w a ss) (k : Nat) : StrsIn w a (ss.take k) := fun j hj => by
  rw [List.length_take] at hj
  obtain ⟨b, off, e, hc⟩ := h j (by omega)
  exact ⟨b, off, e, by rw [hc]; simp [List.getD, show j < k from by omega]⟩
theorem StrsIn.nil (w : World) (a : Option Addr) : StrsIn w a [] := fun _ hj => absurd hj (Nat.not_lt_zero _)
theorem IntsIn.nil (w : World) (a : Option Addr) : IntsIn w a [] := fun _ hj => absurd hj (Nat.not_lt_zero _)
theorem lt_of_cell {w : World} {p : Addr} {v : Value} (h : w.cell? p = some v) : p.block < w.heap.size := by
  unfold World.cell? at h
  cases ho : w.heap[p.block]? with
  | none => rw [ho] at h; simp at h
  | some o => exact (Array.getElem?_eq_some_iff.1 ho).1
theorem StrsIn.below {w w' : World} {a : Option Addr} {ss : List ByteArray} (h : StrsIn w a ss) (hb : Below w.heap.size w w') : StrsIn w' a ss := fun j hj => by
  obtain ⟨b, off, e, hc⟩ := h j hj
  exact ⟨b, off, e, (hb.cell (lt_of_cell hc)).trans hc⟩
theorem IntsIn.below {w w' : World} {a : Option Addr} {xs : List Int} (h : IntsIn w a xs) (hb : Below w.heap.size w w') : IntsIn w' a xs := fun j hj => by
  obtain ⟨b, off, e, hc⟩ := h j hj
  exact ⟨b, off, e, (hb.cell (lt_of_cell hc)).trans hc⟩

set_option maxHeartbeats 400000 in
/-- slices.Index at []string -/
theorem index_any (a : Option Addr) (n c : Nat) (ss : List ByteArray) (x : ByteArray) (w : World) (hn : n = ss.length) (hbig : n ≤ 9223372036854775807) (hc : StrsIn w a ss) :
    Calls Tryz.prog 100 #[.slice a n c, .string x] w fun e w' => e = .returned (.int .i64 (Lib.idxOfS ss x)) ∧ w = w' := by
  have HN := Lib.hid hn
  have HC := Lib.hid hc
  clear hn hc
  go_enter Tryz.func100, Tryz.ntmps100
  go_wp2
  go_loop [5, 8] (fun _ i => ∃ k : Nat, k ≤ n ∧ i = .int .i64 k ∧ Hid (∀ j, j < k → ss.getD j ByteArray.empty ≠ x)) (fun _ i => n - (intOf i).toNat)
  case atStart => exact ⟨0, Nat.zero_le _, rfl, Lib.hid fun j hj => absurd hj (Nat.not_lt_zero _)⟩
  case round =>
    obtain ⟨k, hk, rfl, hne⟩ := hrel
    by_cases hlt : k < n
    · obtain ⟨b, off, rfl, hcell⟩ := HC.out k (by have := HN.out; omega)
      obtain ⟨y, hy⟩ : ∃ y, ss.getD k ByteArray.empty = y := ⟨_, rfl⟩
      rw [hy] at hcell
      have HY := Lib.hid hy
      clear hy
      by_cases he : y = x
      · have heq : (x.toList == y.toList) = true := (Lib.bytes_beq_iff _ _).2 he.symm
        have HE := Lib.hid he
        clear he
        go_wp2
        go_ret
        refine ⟨?_, rfl⟩
        have := Lib.idxOfS_hit ss n k x hlt (by have := HN.out; omega) (by rw [HY.out]; exact HE.out) hne.out
        rw [HN.out, List.take_length] at this
        rw [this]; rfl
      · have heq : (x.toList == y.toList) = false := (Lib.bytes_beq_false_iff _ _).2 (fun e => he e.symm)
        have hne' : Hid (∀ j, j < k + 1 → ss.getD j ByteArray.empty ≠ x) := Lib.hid fun j hj => by
          by_cases e : j = k
          · rw [e, HY.out]; exact he
          · exact hne.out j (by omega)
        clear he
        go_wp2
        go_round
        case rel => exact ⟨k + 1, by omega, by go_num, hne'⟩
        case measure => simp [intOf]; omega
    · go_wp2
      go_ret
      refine ⟨?_, rfl⟩
      have := Lib.idxOfS_miss ss n x (fun j hj => hne.out j (by omega))
      rw [HN.out, List.take_length] at this
      rw [this]; rfl

set_option maxHeartbeats 400000 in
/-- the reference's Index -/
theorem Index_any (a : Option Addr) (n c : Nat) (ss : List ByteArray) (x : ByteArray) (w : World) (hn : n = ss.length) (hbig : n ≤ 9223372036854775807) (hc : StrsIn w a ss) :
    Calls Tryz.prog 58 #[.slice a n c, .string x] w fun e w' => e = .returned (.int .i64 (Lib.idxOfS ss x)) ∧ w = w' := by
  have HN := Lib.hid hn
  have HC := Lib.hid hc
  clear hn hc
  go_enter Tryz.func58, Tryz.ntmps58
  go_wp2
  go_loop [5, 6, 9] (fun _ _ i => ∃ k : Nat, k ≤ n ∧ i = .int .i64 k ∧ Hid (∀ j, j < k → ss.getD j ByteArray.empty ≠ x)) (fun _ _ i => n - (intOf i).toNat)
  case atStart => exact ⟨0, Nat.zero_le _, rfl, Lib.hid fun j hj => absurd hj (Nat.not_lt_zero _)⟩
  case round =>
    obtain ⟨k, hk, rfl, hne⟩ := hrel
    by_cases hlt : k < n
    · obtain ⟨b, off, rfl, hcell⟩ := HC.out k (by have := HN.out; omega)
      obtain ⟨y, hy⟩ : ∃ y, ss.getD k ByteArray.empty = y := ⟨_, rfl⟩
      rw [hy] at hcell
      have HY := Lib.hid hy
      clear hy
      by_cases he : y = x
      · have heq : (y.toList == x.toList) = true := (Lib.bytes_beq_iff _ _).2 he
        have HE := Lib.hid he
        clear he
        go_wp2
        go_ret
        refine ⟨?_, rfl⟩
        have := Lib.idxOfS_hit ss n k x hlt (by have := HN.out; omega) (by rw [HY.out]; exact HE.out) hne.out
        rw [HN.out, List.take_length] at this
        rw [this]; rfl
      · have heq : (y.toList == x.toList) = false := (Lib.bytes_beq_false_iff _ _).2 he
        have hne' : Hid (∀ j, j < k + 1 → ss.getD j ByteArray.empty ≠ x) := Lib.hid fun j hj => by
          by_cases e : j = k
          · rw [e, HY.out]; exact he
          · exact hne.out j (by omega)
        clear he
        go_wp2
        go_round
        case rel => exact ⟨k + 1, by omega, by go_num, hne'⟩
        case measure => simp [intOf]; omega
    · go_wp2
      go_ret
      refine ⟨?_, rfl⟩
      have := Lib.idxOfS_miss ss n x (fun j hj => hne.out j (by omega))
      rw [HN.out, List.take_length] at this
      rw [this]; rfl

/-- slices.Contains at []string -/
theorem contains_any (a : Option Addr) (n c : Nat) (ss : List ByteArray) (x : ByteArray) (w : World) (hn : n = ss.length) (hbig : n ≤ 9223372036854775807) (hc : StrsIn w a ss) :
    Calls Tryz.prog 80 #[.slice a n c, .string x] w fun e w' => e = .returned (.bool (Lib.containsS ss x)) ∧ w = w' := by
  unfold Lib.containsS
  have HN := Lib.hid hn
  have HC := Lib.hid hc
  clear hn hc
  go_enter Tryz.func80, Tryz.ntmps80
  go_wp2_with (go_at_call 100; refine (index_any a n c ss x _ HN.out hbig HC.out).mono ?_; rintro e w' ⟨rfl, rfl⟩)
  go_ret
  exact ⟨rfl, rfl⟩

set_option maxHeartbeats 400000 in
/-- the reference's SameInts -/
theorem SameInts_any (a : Option Addr) (n c : Nat) (xs : List Int) (a' : Option Addr) (n' c' : Nat) (ys : List Int) (w : World) (hn : n = xs.length) (hn' : n' = ys.length) (hbig : n ≤ 9223372036854775807) (hbig' : n' ≤ 9223372036854775807) (hc : IntsIn w a xs) (hc' : IntsIn w a' ys) :
    Calls Tryz.prog 48 #[.slice a n c, .slice a' n' c'] w fun e w' => e = .returned (.bool (decide (xs = ys))) ∧ w = w' := by
  have HN := Lib.hid hn
  have HC := Lib.hid hc
  have HN' := Lib.hid hn'
  have HC' := Lib.hid hc'
  clear hn hc hn' hc'
  by_cases hl : n = n'
  · subst hl
    have hq : ((n : Int) != n) = false := by simp
    go_enter Tryz.func48, Tryz.ntmps48
    go_wp2
    go_loop [5, 6, 14] (fun _ _ i => ∃ k : Nat, k ≤ n ∧ i = .int .i64 k ∧ Hid (∀ j, j < k → xs.getD j 0 = ys.getD j 0)) (fun _ _ i => n - (intOf i).toNat)
    case atStart => exact ⟨0, Nat.zero_le _, rfl, Lib.hid fun j hj => absurd hj (Nat.not_lt_zero _)⟩
    case round =>
      obtain ⟨k, hk, rfl, hne⟩ := hrel
      by_cases hlt : k < n
      · obtain ⟨b, off, rfl, hcell⟩ := HC.out k (by have := HN.out; omega)
        obtain ⟨b', off', rfl, hcell'⟩ := HC'.out k (by have := HN'.out; omega)
        obtain ⟨x, hx⟩ : ∃ x, xs.getD k 0 = x := ⟨_, rfl⟩
        obtain ⟨y, hy⟩ : ∃ y, ys.getD k 0 = y := ⟨_, rfl⟩
        rw [hx] at hcell
        rw [hy] at hcell'
        have HX := Lib.hid hx
        have HY := Lib.hid hy
        clear hx hy
        by_cases he : x = y
        · have hne' : Hid (∀ j, j < k + 1 → xs.getD j 0 = ys.getD j 0) := Lib.hid fun j hj => by
            by_cases e : j = k
            · rw [e, HX.out, HY.out]; exact he
            · exact hne.out j (by omega)
          subst he
          have hq2 : (x != x) = false := by simp
          go_wp2
          go_round
          case rel => exact ⟨k + 1, by omega, by go_num, hne'⟩
          case measure => simp [intOf]; omega
        · have heq : (x != y) = true := by simpa using he
          have HE : Hid (xs ≠ ys) := Lib.hid fun e => he (by rw [← HX.out, ← HY.out, e])
          clear he
          go_wp2
          go_ret
          exact ⟨by rw [decide_eq_false HE.out]; rfl, rfl⟩
      · have HE : Hid (xs = ys) := Lib.hid (by
          have h1 := HN.out
          have h2 := HN'.out
          refine List.ext_getElem (by omega) fun j hj hj' => ?_
          have := hne.out j (by omega)
          simpa [List.getD, List.getElem?_eq_getElem hj, List.getElem?_eq_getElem hj'] using this)
        go_wp2
        go_ret
        exact ⟨by rw [decide_eq_true HE.out]; rfl, rfl⟩
  · have hq : ((n : Int) != n') = true := by rw [bne_iff_ne]; omega
    have HE : Hid (xs ≠ ys) := Lib.hid fun e => hl (by rw [HN.out, HN'.out, e])
    clear hl
    go_enter Tryz.func48, Tryz.ntmps48
    go_wp2
    go_ret
    exact ⟨by rw [decide_eq_false HE.out]; rfl, rfl⟩
set_option maxHeartbeats 400000 in
/-- the reference's SameStrings -/
theorem SameStrings_any (a : Option Addr) (n c : Nat) (xs : List ByteArray) (a' : Option Addr) (n' c' : Nat) (ys : List ByteArray) (w : World) (hn : n = xs.length) (hn' : n' = ys.length) (hbig : n ≤ 9223372036854775807) (hbig' : n' ≤ 9223372036854775807) (hc : StrsIn w a xs) (hc' : StrsIn w a' ys) :
    Calls Tryz.prog 47 #[.slice a n c, .slice a' n' c'] w fun e w' => e = .returned (.bool (decide (xs = ys))) ∧ w = w' := by
  have HN := Lib.hid hn
  have HC := Lib.hid hc
  have HN' := Lib.hid hn'
  have HC' := Lib.hid hc'
  clear hn hc hn' hc'
  by_cases hl : n = n'
  · subst hl
    have hq : ((n : Int) != n) = false := by simp
    go_enter Tryz.func47, Tryz.ntmps47
    go_wp2
    go_loop [5, 6, 14] (fun _ _ i => ∃ k : Nat, k ≤ n ∧ i = .int .i64 k ∧ Hid (∀ j, j < k → xs.getD j ByteArray.empty = ys.getD j ByteArray.empty)) (fun _ _ i => n - (intOf i).toNat)
    case atStart => exact ⟨0, Nat.zero_le _, rfl, Lib.hid fun j hj => absurd hj (Nat.not_lt_zero _)⟩
    case round =>
      obtain ⟨k, hk, rfl, hne⟩ := hrel
      by_cases hlt : k < n
      · obtain ⟨b, off, rfl, hcell⟩ := HC.out k (by have := HN.out; omega)
        obtain ⟨b', off', rfl, hcell'⟩ := HC'.out k (by have := HN'.out; omega)
        obtain ⟨x, hx⟩ : ∃ x, xs.getD k ByteArray.empty = x := ⟨_, rfl⟩
        obtain ⟨y, hy⟩ : ∃ y, ys.getD k ByteArray.empty = y := ⟨_, rfl⟩
        rw [hx] at hcell
        rw [hy] at hcell'
        have HX := Lib.hid hx
        have HY := Lib.hid hy
        clear hx hy
        by_cases he : x = y
        · have hne' : Hid (∀ j, j < k + 1 → xs.getD j ByteArray.empty = ys.getD j ByteArray.empty) := Lib.hid fun j hj => by
            by_cases e : j = k
            · rw [e, HX.out, HY.out]; exact he
            · exact hne.out j (by omega)
          subst he
          have hq2 : (x.toList == x.toList) = true := by simp
          go_wp2
          go_round
          case rel => exact ⟨k + 1, by omega, by go_num, hne'⟩
          case measure => simp [intOf]; omega
        · have heq : (x.toList == y.toList) = false := (Lib.bytes_beq_false_iff _ _).2 he
          have HE : Hid (xs ≠ ys) := Lib.hid fun e => he (by rw [← HX.out, ← HY.out, e])
          clear he
          go_wp2
          go_ret
          exact ⟨by rw [decide_eq_false HE.out]; rfl, rfl⟩
      · have HE : Hid (xs = ys) := Lib.hid (by
          have h1 := HN.out
          have h2 := HN'.out
          refine List.ext_getElem (by omega) fun j hj hj' => ?_
          have := hne.out j (by omega)
          simpa [List.getD, List.getElem?_eq_getElem hj, List.getElem?_eq_getElem hj'] using this)
        go_wp2
        go_ret
        exact ⟨by rw [decide_eq_true HE.out]; rfl, rfl⟩
  · have hq : ((n : Int) != n') = true := by rw [bne_iff_ne]; omega
    have HE : Hid (xs ≠ ys) := Lib.hid fun e => hl (by rw [HN.out, HN'.out, e])
    clear hl
    go_enter Tryz.func47, Tryz.ntmps47
    go_wp2
    go_ret
    exact ⟨by rw [decide_eq_false HE.out]; rfl, rfl⟩


set_option maxHeartbeats 400000 in
/-- the reference's Is -/
theorem Is_any (a : Option Addr) (n c : Nat) (ss : List ByteArray) (w : World) (hn : n = ss.length) (hbig : n ≤ 9223372036854775807) (hs : ∀ k, k < n → (at_ ss k).size ≤ 9223372036854775807) (hc : StrsIn w a ss) :
    Calls Tryz.prog 30 #[.slice a n c] w fun e w' => e = .returned (.bool (actsB ss)) ∧ w = w' := by
  have HN := Lib.hid hn
  have HC := Lib.hid hc
  have HS := Lib.hid hs
  clear hn hc hs
  by_cases h8 : 8 < n
  · have HB := Lib.hid (actsB_long ss (by have := HN.out; omega))
    go_enter Tryz.func30, Tryz.ntmps30
    go_wp2
    go_ret
    exact ⟨ret_bool HB.out.symm, rfl⟩
  go_enter Tryz.func30, Tryz.ntmps30
  go_wp2
  go_loop [3, 4, 10] (fun _ _ i => ∃ k : Nat, k ≤ n ∧ i = .int .i64 k ∧ Hid (∀ j, j < k → nameB (at_ ss j) = true ∧ Lib.containsS (ss.take j) (at_ ss j) = false)) (fun _ _ i => n - (intOf i).toNat)
  case atStart => exact ⟨0, Nat.zero_le _, rfl, Lib.hid fun j hj => absurd hj (Nat.not_lt_zero _)⟩
  case round =>
    obtain ⟨k, hk, rfl, hne⟩ := hrel
    by_cases hlt : k < n
    · obtain ⟨b, off, rfl, hcell⟩ := HC.out k (by have := HN.out; omega)
      have hsz := HS.out k hlt
      change w.cell? _ = some (.string (at_ ss k)) at hcell
      cases hnm : nameB (at_ ss k)
      · have HB := Lib.hid (actsB_name ss k (by have := HN.out; omega) hnm)
        have HM := Lib.hid hnm
        clear hnm
        obtain ⟨y, HY⟩ : ∃ y, Hid (at_ ss k = y) := ⟨_, Lib.hid rfl⟩
        rw [HY.out] at hcell HM hsz
        go_wp2_with fail
        refine (Name_any y _ hsz).mono ?_
        rw [HM.out]
        rintro e w' ⟨rfl, rfl⟩
        go_wp2
        go_ret
        exact ⟨ret_bool HB.out.symm, rfl⟩
      · have HM := Lib.hid hnm
        have HF := Lib.hid (idx_first ss k (by have := HN.out; omega))
        have HI := Lib.hid (Index_any (some ⟨b, off, none⟩) n c ss (at_ ss k) w HN.out hbig HC.out)
        cases hq : Lib.containsS (ss.take k) (at_ ss k)
        · have hne' : Hid (∀ j, j < k + 1 → nameB (at_ ss j) = true ∧ Lib.containsS (ss.take j) (at_ ss j) = false) := Lib.hid fun j hj => by
            by_cases e : j = k
            · rw [e]; exact ⟨hnm, hq⟩
            · exact hne.out j (by omega)
          have HX : Hid (Lib.idxOfS ss (at_ ss k) = k) := Lib.hid (HF.out.2 hq)
          clear hnm hq
          obtain ⟨y, HY⟩ : ∃ y, Hid (at_ ss k = y) := ⟨_, Lib.hid rfl⟩
          rw [HY.out] at hcell HM HX HI hsz
          rw [HX.out] at HI
          have hkk : ((k : Int) != k) = false := by simp
          go_wp2_with fail
          refine (Name_any y _ hsz).mono ?_
          rw [HM.out]
          rintro e w' ⟨rfl, rfl⟩
          go_wp2_with fail
          refine HI.out.mono ?_
          rintro e w' ⟨rfl, rfl⟩
          go_wp2
          go_round
          case rel => exact ⟨k + 1, by omega, by go_num, hne'⟩
          case measure => simp [intOf]; omega
        · have HB := Lib.hid (actsB_twice ss k (by have := HN.out; omega) hq)
          have hx : ¬ Lib.idxOfS ss (at_ ss k) = k := fun h => by rw [HF.out.1 h] at hq; cases hq
          clear hnm hq
          obtain ⟨y, HY⟩ : ∃ y, Hid (at_ ss k = y) := ⟨_, Lib.hid rfl⟩
          rw [HY.out] at hcell HM HI hsz hx
          have hkk : (Lib.idxOfS ss y != (k : Int)) = true := by rw [bne_iff_ne]; exact hx
          clear hx
          go_wp2_with fail
          refine (Name_any y _ hsz).mono ?_
          rw [HM.out]
          rintro e w' ⟨rfl, rfl⟩
          go_wp2_with fail
          refine HI.out.mono ?_
          rintro e w' ⟨rfl, rfl⟩
          go_wp2
          go_ret
          exact ⟨ret_bool HB.out.symm, rfl⟩
    · have HB := Lib.hid (actsB_good ss (by have := HN.out; omega) (fun j hj => hne.out j (by have := HN.out; omega)))
      go_wp2
      go_ret
      exact ⟨ret_bool HB.out.symm, rfl⟩
end Go.Proofs.YtbncofgbpffmkaaGreatDoor
