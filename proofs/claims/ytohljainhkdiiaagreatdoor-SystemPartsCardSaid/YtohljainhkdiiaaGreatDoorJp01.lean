/- Texts joined: Lists, Is. -/
import Derived.Test.YtohljainhkdiiaaGreatDoorJp00
import Derived.LaidEql
import Derived.Stop.Asserts
import Derived.RowKitTokens
/- Lists in memory, and the contracts of the functions that look lists through: each only computes. -/
namespace Go.Proofs.YtohljainhkdiiaaGreatDoor
open Go.RowKit Pl

/-- the cells behind a slice's address hold these strings -/
def StrsIn (w : World) (a : Option Addr) (ss : List ByteArray) : Prop :=
  ∀ j, j < ss.length → ∃ b off, a = some ⟨b, off, none⟩ ∧ w.cell? ⟨b, off + j, none⟩ = some (.string (ss.getD j ByteArray.empty))
/-- the cells behind a slice's address hold these numbers -/
def IntsIn (w : World) (a : Option Addr) (xs : List Int) : Prop :=
  ∀ j, j < xs.length → ∃ b off, a = some ⟨b, off, none⟩ ∧ w.cell? ⟨b, off + j, none⟩ = some (.int .i64 (xs.getD j 0))
theorem StrsIn.take {w : World} {a : Option Addr} {ss : List ByteArray} (h : StrsIn w a ss) (k : Nat) : StrsIn w a (ss.take k) := fun j hj => by
  rw [List.length_take] at hj
  obtain ⟨b, off, e, hc⟩ := h j (by omega)
  exact ⟨b, off, e, by rw [hc]; simp [List.getD, show j < k from by omega]⟩
theorem StrsIn.nil (w : World) (a : Option Addr) : StrsIn w a [] := fun _ hj => absurd hj (Nat.not_lt_zero _)
theorem IntsIn.nil (w : World) (a : Option Addr) : IntsIn w a [] := fun _ hj => absurd hj (Nat.not_lt_zero _)
theorem lt_of_cell {w : World} {p : Addr} {v : Value} (h : w.cell? p = some v) : p.block < w.heap.size := by
  unfold World.cell? at h
  cases ho : w.heap[p.block]? with
  | none => rw [ho] at h; simp at h
  | some o => exact (Array.getElem?_eq_some_iff.1 ho).1
theorem StrsIn.below {w w' : World} {a : Option Addr} {ss : List ByteArray} (h : StrsIn w a ss) (hb : Below w.heap.size w w') : StrsIn w' a ss := fun j hj => by
  obtain ⟨b, off, e, hc⟩ := h j hj
  exact ⟨b, off, e, (hb.cell (lt_of_cell hc)).trans hc⟩
theorem IntsIn.below {w w' : World} {a : Option Addr} {xs : List Int} (h : IntsIn w a xs) (hb : Below w.heap.size w w') : IntsIn w' a xs := fun j hj => by
  obtain ⟨b, off, e, hc⟩ := h j hj
  exact ⟨b, off, e, (hb.cell (lt_of_cell hc)).trans hc⟩

set_option maxHeartbeats 400000 in
/-- slices.Index at []string -/
theorem index_any (a : Option Addr) (n c : Nat) (ss : List ByteArray) (x : ByteArray) (w : World) (hn : n = ss.length) (hbig : n ≤ 9223372036854775807) (hc : StrsIn w a ss) :
    Calls Tryz.prog 126 #[.slice a n c, .string x] w fun e w' => e = .returned (.int .i64 (Lib.idxOfS ss x)) ∧ w = w' := by
  have HN := Lib.hid hn
  have HC := Lib.hid hc
  clear hn hc
  go_enter Tryz.func126, Tryz.ntmps126
  go_wp2
  go_loop [5, 8] (fun _ i => ∃ k : Nat, k ≤ n ∧ i = .int .i64 k ∧ Hid (∀ j, j < k → ss.getD j ByteArray.empty ≠ x)) (fun _ i => n - (intOf i).toNat)
  case atStart => exact ⟨0, Nat.zero_le _, rfl, Lib.hid fun j hj => absurd hj (Nat.not_lt_zero _)⟩
  case round =>
    obtain ⟨k, hk, rfl, hne⟩ := hrel
    by_cases hlt : k < n
    · obtain ⟨b, off, rfl, hcell⟩ := HC.out k (by have := HN.out; omega)
      obtain ⟨y, hy⟩ : ∃ y, ss.getD k ByteArray.empty = y := ⟨_, rfl⟩
      rw [hy] at hcell
      have HY := Lib.hid hy
      clear hy
      by_cases he : y = x
      · have heq : (x.toList == y.toList) = true := (Lib.bytes_beq_iff _ _).2 he.symm
        have HE := Lib.hid he
        clear he
        go_wp2
        go_ret
        refine ⟨?_, rfl⟩
        have := Lib.idxOfS_hit ss n k x hlt (by have := HN.out; omega) (by rw [HY.out]; exact HE.out) hne.out
        rw [HN.out, List.take_length] at this
        rw [this]; rfl
      · have heq : (x.toList == y.toList) = false := (Lib.bytes_beq_false_iff _ _).2 (fun e => he e.symm)
        have hne' : Hid (∀ j, j < k + 1 → ss.getD j ByteArray.empty ≠ x) := Lib.hid fun j hj => by
          by_cases e : j = k
          · rw [e, HY.out]; exact he
          · exact hne.out j (by omega)
        clear he
        go_wp2
        go_round
        case rel => exact ⟨k + 1, by omega, by go_num, hne'⟩
        case measure => simp [intOf]; omega
    · go_wp2
      go_ret
      refine ⟨?_, rfl⟩
      have := Lib.idxOfS_miss ss n x (fun j hj => hne.out j (by omega))
      rw [HN.out, List.take_length] at this
      rw [this]; rfl

set_option maxHeartbeats 400000 in
/-- the reference's Index -/
theorem Index_any (a : Option Addr) (n c : Nat) (ss : List ByteArray) (x : ByteArray) (w : World) (hn : n = ss.length) (hbig : n ≤ 9223372036854775807) (hc : StrsIn w a ss) :
    Calls Tryz.prog 73 #[.slice a n c, .string x] w fun e w' => e = .returned (.int .i64 (Lib.idxOfS ss x)) ∧ w = w' := by
  have HN := Lib.hid hn
  have HC := Lib.hid hc
  clear hn hc
  go_enter Tryz.func73, Tryz.ntmps73
  go_wp2
  go_loop [5, 6, 9] (fun _ _ i => ∃ k : Nat, k ≤ n ∧ i = .int .i64 k ∧ Hid (∀ j, j < k → ss.getD j ByteArray.empty ≠ x)) (fun _ _ i => n - (intOf i).toNat)
  case atStart => exact ⟨0, Nat.zero_le _, rfl, Lib.hid fun j hj => absurd hj (Nat.not_lt_zero _)⟩
  case round =>
    obtain ⟨k, hk, rfl, hne⟩ := hrel
    by_cases hlt : k < n
    · obtain ⟨b, off, rfl, hcell⟩ := HC.out k (by have := HN.out; omega)
      obtain ⟨y, hy⟩ : ∃ y, ss.getD k ByteArray.empty = y := ⟨_, rfl⟩
      rw [hy] at hcell
      have HY := Lib.hid hy
      clear hy
      by_cases he : y = x
      · have heq : (y.toList == x.toList) = true := (Lib.bytes_beq_iff _ _).2 he
        have HE := Lib.hid he
        clear he
        go_wp2
        go_ret
        refine ⟨?_, rfl⟩
        have := Lib.idxOfS_hit ss n k x hlt (by have := HN.out; omega) (by rw [HY.out]; exact HE.out) hne.out
        rw [HN.out, List.take_length] at this
        rw [this]; rfl
      · have heq : (y.toList == x.toList) = false := (Lib.bytes_beq_false_iff _ _).2 he
        have hne' : Hid (∀ j, j < k + 1 → ss.getD j ByteArray.empty ≠ x) := Lib.hid fun j hj => by
          by_cases e : j = k
          · rw [e, HY.out]; exact he
          · exact hne.out j (by omega)
        clear he
        go_wp2
        go_round
        case rel => exact ⟨k + 1, by omega, by go_num, hne'⟩
        case measure => simp [intOf]; omega
    · go_wp2
      go_ret
      refine ⟨?_, rfl⟩
      have := Lib.idxOfS_miss ss n x (fun j hj => hne.out j (by omega))
      rw [HN.out, List.take_length] at this
      rw [this]; rfl

/-- slices.Contains at []string -/
theorem contains_any (a : Option Addr) (n c : Nat) (ss : List ByteArray) (x : ByteArray) (w : World) (hn : n = ss.length) (hbig : n ≤ 9223372036854775807) (hc : StrsIn w a ss) :
    Calls Tryz.prog 130 #[.slice a n c, .string x] w fun e w' => e = .returned (.bool (Lib.containsS ss x)) ∧ w = w' := by
  unfold Lib.containsS
  have HN := Lib.hid hn
  have HC := Lib.hid hc
  clear hn hc
  go_enter Tryz.func130, Tryz.ntmps130
  go_wp2_with (go_at_call 126; refine (index_any a n c ss x _ HN.out hbig HC.out).mono ?_; rintro e w' ⟨rfl, rfl⟩)
  go_ret
  exact ⟨rfl, rfl⟩

set_option maxHeartbeats 400000 in
/-- the reference's SameInts -/
theorem SameInts_any (a : Option Addr) (n c : Nat) (xs : List Int) (a' : Option Addr) (n' c' : Nat) (ys : List Int) (w : World) (hn : n = xs.length) (hn' : n' = ys.length) (hbig : n ≤ 9223372036854775807) (hbig' : n' ≤ 9223372036854775807) (hc : IntsIn w a xs) (hc' : IntsIn w a' ys) :
    Calls Tryz.prog 13 #[.slice a n c, .slice a' n' c'] w fun e w' => e = .returned (.bool (decide (xs = ys))) ∧ w = w' := by
  have HN := Lib.hid hn
  have HC := Lib.hid hc
  have HN' := Lib.hid hn'
  have HC' := Lib.hid hc'
  clear hn hc hn' hc'
  by_cases hl : n = n'
  · subst hl
    have hq : ((n : Int) != n) = false := by simp
    go_enter Tryz.func13, Tryz.ntmps13
    go_wp2
    go_loop [5, 6, 14] (fun _ _ i => ∃ k : Nat, k ≤ n ∧ i = .int .i64 k ∧ Hid (∀ j, j < k → xs.getD j 0 = ys.getD j 0)) (fun _ _ i => n - (intOf i).toNat)
    case atStart => exact ⟨0, Nat.zero_le _, rfl, Lib.hid fun j hj => absurd hj (Nat.not_lt_zero _)⟩
    case round =>
      obtain ⟨k, hk, rfl, hne⟩ := hrel
      by_cases hlt : k < n
      · obtain ⟨b, off, rfl, hcell⟩ := HC.out k (by have := HN.out; omega)
        obtain ⟨b', off', rfl, hcell'⟩ := HC'.out k (by have := HN'.out; omega)
        obtain ⟨x, hx⟩ : ∃ x, xs.getD k 0 = x := ⟨_, rfl⟩
        obtain ⟨y, hy⟩ : ∃ y, ys.getD k 0 = y := ⟨_, rfl⟩
        rw [hx] at hcell
        rw [hy] at hcell'
        have HX := Lib.hid hx
        have HY := Lib.hid hy
        clear hx hy
        by_cases he : x = y
        · have hne' : Hid (∀ j, j < k + 1 → xs.getD j 0 = ys.getD j 0) := Lib.hid fun j hj => by
            by_cases e : j = k
            · rw [e, HX.out, HY.out]; exact he
            · exact hne.out j (by omega)
          subst he
          have hq2 : (x != x) = false := by simp
          go_wp2
          go_round
          case rel => exact ⟨k + 1, by omega, by go_num, hne'⟩
          case measure => simp [intOf]; omega
        · have heq : (x != y) = true := by simpa using he
          have HE : Hid (xs ≠ ys) := Lib.hid fun e => he (by rw [← HX.out, ← HY.out, e])
          clear he
          go_wp2
          go_ret
          exact ⟨by rw [decide_eq_false HE.out]; rfl, rfl⟩
      · have HE : Hid (xs = ys) := Lib.hid (by
          have h1 := HN.out
          have h2 := HN'.out
          refine List.ext_getElem (by omega) fun j hj hj' => ?_
          have := hne.out j (by omega)
          simpa [List.getD, List.getElem?_eq_getElem hj, List.getElem?_eq_getElem hj'] using this)
        go_wp2
        go_ret
        exact ⟨by rw [decide_eq_true HE.out]; rfl, rfl⟩
  · have hq : ((n : Int) != n') = true := by rw [bne_iff_ne]; omega
    have HE : Hid (xs ≠ ys) := Lib.hid fun e => hl (by rw [HN.out, HN'.out, e])
    clear hl
    go_enter Tryz.func13, Tryz.ntmps13
    go_wp2
    go_ret
    exact ⟨by rw [decide_eq_false HE.out]; rfl, rfl⟩
set_option maxHeartbeats 400000 in
/-- the reference's SameStrings -/
theorem SameStrings_any (a : Option Addr) (n c : Nat) (xs : List ByteArray) (a' : Option Addr) (n' c' : Nat) (ys : List ByteArray) (w : World) (hn : n = xs.length) (hn' : n' = ys.length) (hbig : n ≤ 9223372036854775807) (hbig' : n' ≤ 9223372036854775807) (hc : StrsIn w a xs) (hc' : StrsIn w a' ys) :
    Calls Tryz.prog 40 #[.slice a n c, .slice a' n' c'] w fun e w' => e = .returned (.bool (decide (xs = ys))) ∧ w = w' := by
  have HN := Lib.hid hn
  have HC := Lib.hid hc
  have HN' := Lib.hid hn'
  have HC' := Lib.hid hc'
  clear hn hc hn' hc'
  by_cases hl : n = n'
  · subst hl
    have hq : ((n : Int) != n) = false := by simp
    go_enter Tryz.func40, Tryz.ntmps40
    go_wp2
    go_loop [5, 6, 14] (fun _ _ i => ∃ k : Nat, k ≤ n ∧ i = .int .i64 k ∧ Hid (∀ j, j < k → xs.getD j ByteArray.empty = ys.getD j ByteArray.empty)) (fun _ _ i => n - (intOf i).toNat)
    case atStart => exact ⟨0, Nat.zero_le _, rfl, Lib.hid fun j hj => absurd hj (Nat.not_lt_zero _)⟩
    case round =>
      obtain ⟨k, hk, rfl, hne⟩ := hrel
      by_cases hlt : k < n
      · obtain ⟨b, off, rfl, hcell⟩ := HC.out k (by have := HN.out; omega)
        obtain ⟨b', off', rfl, hcell'⟩ := HC'.out k (by have := HN'.out; omega)
        obtain ⟨x, hx⟩ : ∃ x, xs.getD k ByteArray.empty = x := ⟨_, rfl⟩
        obtain ⟨y, hy⟩ : ∃ y, ys.getD k ByteArray.empty = y := ⟨_, rfl⟩
        rw [hx] at hcell
        rw [hy] at hcell'
        have HX := Lib.hid hx
        have HY := Lib.hid hy
        clear hx hy
        by_cases he : x = y
        · have hne' : Hid (∀ j, j < k + 1 → xs.getD j ByteArray.empty = ys.getD j ByteArray.empty) := Lib.hid fun j hj => by
            by_cases e : j = k
            · rw [e, HX.out, HY.out]; exact he
            · exact hne.out j (by omega)
          subst he
          have hq2 : (x.toList == x.toList) = true := by simp
          go_wp2
          go_round
          case rel => exact ⟨k + 1, by omega, by go_num, hne'⟩
          case measure => simp [intOf]; omega
        · have heq : (x.toList == y.toList) = false := (Lib.bytes_beq_false_iff _ _).2 he
          have HE : Hid (xs ≠ ys) := Lib.hid fun e => he (by rw [← HX.out, ← HY.out, e])
          clear he
          go_wp2
          go_ret
          exact ⟨by rw [decide_eq_false HE.out]; rfl, rfl⟩
      · have HE : Hid (xs = ys) := Lib.hid (by
          have h1 := HN.out
          have h2 := HN'.out
          refine List.ext_getElem (by omega) fun j hj hj' => ?_
          have := hne.out j (by omega)
          simpa [List.getD, List.getElem?_eq_getElem hj, List.getElem?_eq_getElem hj'] using this)
        go_wp2
        go_ret
        exact ⟨by rw [decide_eq_true HE.out]; rfl, rfl⟩
  · have hq : ((n : Int) != n') = true := by rw [bne_iff_ne]; omega
    have HE : Hid (xs ≠ ys) := Lib.hid fun e => hl (by rw [HN.out, HN'.out, e])
    clear hl
    go_enter Tryz.func40, Tryz.ntmps40
    go_wp2
    go_ret
    exact ⟨by rw [decide_eq_false HE.out]; rfl, rfl⟩


theorem Has_any (x a : Int) (w : World) (h0 : 0 ≤ a) (h1 : a ≤ 62) (hx : 0 ≤ x) (hx' : x ≤ 9223372036854775807) :
    Calls Tryz.prog 148 #[.int .i64 x, .int .i64 a] w fun e w' => e = .returned (.bool (x.toNat.testBit a.toNat)) ∧ w = w' := by
  have HB := Lib.hid (has_bit x.toNat a.toNat (by omega))
  rw [show ((x.toNat : Nat) : Int) = x from by omega] at HB
  go_enter Tryz.func148, Tryz.ntmps148
  go_wp2
  go_ret
  exact ⟨ret_bool HB.out, rfl⟩
theorem Set_any (n : Nat) (x : Int) (w : World) (hn : n ≤ 62) :
    Calls Tryz.prog 115 #[.int .i64 n, .int .i64 x] w fun e w' => e = .returned (.bool (setB n x)) ∧ w = w' := by
  obtain ⟨p1, p2⟩ := pow_le n hn
  by_cases h : 0 ≤ x
  · have HB : Hid (setB n x = decide (x < 2 ^ n)) := Lib.hid (by simp [setB, h])
    go_enter Tryz.func115, Tryz.ntmps115
    go_wp2
    go_ret
    exact ⟨ret_bool HB.out.symm, rfl⟩
  · have HB : Hid (setB n x = false) := Lib.hid (by simp [setB, h])
    go_enter Tryz.func115, Tryz.ntmps115
    go_wp2
    go_ret
    exact ⟨ret_bool HB.out.symm, rfl⟩

set_option maxHeartbeats 400000 in
/-- the reference's Is -/
theorem Is_any (a : Option Addr) (n c : Nat) (ss : List ByteArray) (w : World) (hn : n = ss.length) (hbig : n ≤ 9223372036854775807) (hs : ∀ k, k < n → (at_ ss k).size ≤ 9223372036854775807) (hc : StrsIn w a ss) :
    Calls Tryz.prog 31 #[.slice a n c] w fun e w' => e = .returned (.bool (actsB ss)) ∧ w = w' := by
  have HN := Lib.hid hn
  have HC := Lib.hid hc
  have HS := Lib.hid hs
  clear hn hc hs
  by_cases h8 : 8 < n
  · have HB := Lib.hid (actsB_long ss (by have := HN.out; omega))
    go_enter Tryz.func31, Tryz.ntmps31
    go_wp2
    go_ret
    exact ⟨ret_bool HB.out.symm, rfl⟩
  go_enter Tryz.func31, Tryz.ntmps31
  go_wp2
  go_loop [3, 4, 10] (fun _ _ i => ∃ k : Nat, k ≤ n ∧ i = .int .i64 k ∧ Hid (∀ j, j < k → nameB (at_ ss j) = true ∧ Lib.containsS (ss.take j) (at_ ss j) = false)) (fun _ _ i => n - (intOf i).toNat)
  case atStart => exact ⟨0, Nat.zero_le _, rfl, Lib.hid fun j hj => absurd hj (Nat.not_lt_zero _)⟩
  case round =>
    obtain ⟨k, hk, rfl, hne⟩ := hrel
    by_cases hlt : k < n
    · obtain ⟨b, off, rfl, hcell⟩ := HC.out k (by have := HN.out; omega)
      have hsz := HS.out k hlt
      change w.cell? _ = some (.string (at_ ss k)) at hcell
      cases hnm : nameB (at_ ss k)
      · have HB := Lib.hid (actsB_name ss k (by have := HN.out; omega) hnm)
        have HM := Lib.hid hnm
        clear hnm
        obtain ⟨y, HY⟩ : ∃ y, Hid (at_ ss k = y) := ⟨_, Lib.hid rfl⟩
        rw [HY.out] at hcell HM hsz
        go_wp2_with fail
        refine (Name_any y _ hsz).mono ?_
        rw [HM.out]
        rintro e w' ⟨rfl, rfl⟩
        go_wp2
        go_ret
        exact ⟨ret_bool HB.out.symm, rfl⟩
      · have HM := Lib.hid hnm
        have HF := Lib.hid (idx_first ss k (by have := HN.out; omega))
        have HI := Lib.hid (Index_any (some ⟨b, off, none⟩) n c ss (at_ ss k) w HN.out hbig HC.out)
        cases hq : Lib.containsS (ss.take k) (at_ ss k)
        · have hne' : Hid (∀ j, j < k + 1 → nameB (at_ ss j) = true ∧ Lib.containsS (ss.take j) (at_ ss j) = false) := Lib.hid fun j hj => by
            by_cases e : j = k
            · rw [e]; exact ⟨hnm, hq⟩
            · exact hne.out j (by omega)
          have HX : Hid (Lib.idxOfS ss (at_ ss k) = k) := Lib.hid (HF.out.2 hq)
          clear hnm hq
          obtain ⟨y, HY⟩ : ∃ y, Hid (at_ ss k = y) := ⟨_, Lib.hid rfl⟩
          rw [HY.out] at hcell HM HX HI hsz
          rw [HX.out] at HI
          have hkk : ((k : Int) != k) = false := by simp
          go_wp2_with fail
          refine (Name_any y _ hsz).mono ?_
          rw [HM.out]
          rintro e w' ⟨rfl, rfl⟩
          go_wp2_with fail
          refine HI.out.mono ?_
          rintro e w' ⟨rfl, rfl⟩
          go_wp2
          go_round
          case rel => exact ⟨k + 1, by omega, by go_num, hne'⟩
          case measure => simp [intOf]; omega
        · have HB := Lib.hid (actsB_twice ss k (by have := HN.out; omega) hq)
          have hx : ¬ Lib.idxOfS ss (at_ ss k) = k := fun h => by rw [HF.out.1 h] at hq; cases hq
          clear hnm hq
          obtain ⟨y, HY⟩ : ∃ y, Hid (at_ ss k = y) := ⟨_, Lib.hid rfl⟩
          rw [HY.out] at hcell HM HI hsz hx
          have hkk : (Lib.idxOfS ss y != (k : Int)) = true := by rw [bne_iff_ne]; exact hx
          clear hx
          go_wp2_with fail
          refine (Name_any y _ hsz).mono ?_
          rw [HM.out]
          rintro e w' ⟨rfl, rfl⟩
          go_wp2_with fail
          refine HI.out.mono ?_
          rintro e w' ⟨rfl, rfl⟩
          go_wp2
          go_ret
          exact ⟨ret_bool HB.out.symm, rfl⟩
    · have HB := Lib.hid (actsB_good ss (by have := HN.out; omega) (fun j hj => hne.out j (by have := HN.out; omega)))
      go_wp2
      go_ret
      exact ⟨ret_bool HB.out.symm, rfl⟩
end Go.Proofs.YtohljainhkdiiaaGreatDoor
/- errors.Is, for an error of errors.New's make or nil beside such a one. -/
namespace Go.Proofs.YtohljainhkdiiaaGreatDoor
open Go.RowKit Go.Extern.Stop Go.Stop Go.Extern

theorem isTypeOf (v : Value) (w : World) : (Extern.ReflectliteType.typeOf #[.iface 289 v]).run Tryz.prog w = .ok (.iface 257 (.agg #[.pointer (some ⟨11, 289, none⟩)])) w := by kernel_rfl
theorem isComparable (w : World) : (callFunc 231 #[.agg #[.pointer (some ⟨11, 289, none⟩)]]).run Tryz.prog w = .ok (Next.value (.bool true)) w := by kernel_rfl
theorem isMethodComparable (v : Value) (w : World) : (Go.method 423 257 v "Comparable").run Tryz.prog w = .ok (231, v) w := by kernel_rfl
theorem isComp : (Tryz.prog.info? 289).map (·.comparable) = some true := by kernel_rfl
theorem isSize : (Tryz.prog.info? 291).map (·.size) = some 1 := by kernel_rfl
theorem noIsE (v : Value) (xT : TypeId) (w : World) : (Instr.typeAssert (.iface 289 v) xT 259 true).run Tryz.prog w = .ok (.tuple #[.nilIface, .bool false]) w := run_typeAssert_lacksB Tryz.underlying259 (by kernel_rfl) (by kernel_rfl) v xT w
theorem noUnwrapE (v : Value) (xT : TypeId) (w : World) : (Instr.typeAssert (.iface 289 v) xT 262 true).run Tryz.prog w = .ok (.tuple #[.nilIface, .bool false]) w := run_typeAssert_lacksB Tryz.underlying262 (by kernel_rfl) (by kernel_rfl) v xT w
theorem noUnwrapsE (v : Value) (xT : TypeId) (w : World) : (Instr.typeAssert (.iface 289 v) xT 264 true).run Tryz.prog w = .ok (.tuple #[.nilIface, .bool false]) w := run_typeAssert_lacksB Tryz.underlying264 (by kernel_rfl) (by kernel_rfl) v xT w

set_option maxRecDepth 100000 in
/-- errors.Is(x, x) -/
theorem is_same (a : Addr) (w : World) :
    Calls Tryz.prog 128 #[.iface 289 (.pointer (some a)), .iface 289 (.pointer (some a))] w fun e w' => e = .returned (.bool true) ∧ w = w' := by
  obtain ⟨i, hi, hcmp⟩ := Option.map_eq_some_iff.1 isComp
  obtain ⟨j, hj, _⟩ := Option.map_eq_some_iff.1 isSize
  have h8 := @run_callFunc_extern Tryz.prog 161 _ Extern.ReflectliteType.typeOf Tryz.func161 (by kernel_rfl) (by kernel_rfl) (by kernel_rfl) (by kernel_rfl)
  have tT := isTypeOf
  have cT := isComparable
  have mR := isMethodComparable
  have heq := run_eql_iface_ptr_same (P := Tryz.prog) w a Tryz.underlying127 Tryz.underlying289 hi hcmp hj
  go_enter Tryz.func128, Tryz.ntmps128
  go_wp2
  refine wp_loop_rounds 1 ?_
  rw [rounds_succ]
  go_wp2
  go_ret
  exact ⟨rfl, rfl⟩

set_option maxRecDepth 100000 in
/-- errors.Is(nil, x) -/
theorem is_nil (b : Addr) (w : World) :
    Calls Tryz.prog 128 #[.nilIface, .iface 289 (.pointer (some b))] w fun e w' => e = .returned (.bool false) ∧ w = w' := by
  have hn := run_eql_iface_nil_left (P := Tryz.prog) w 289 (.pointer (some b)) Tryz.underlying127
  go_enter Tryz.func128, Tryz.ntmps128
  go_wp2
  go_ret
  exact ⟨rfl, rfl⟩

set_option maxRecDepth 100000 in
/-- errors.Is(x, y), two different ones -/
theorem is_other (a b : Addr) (ca cb : Array Value) (ta tb : TypeId) (w : World) (hne : a ≠ b) (ha : w.heap[a.block]? = some (.cells ca ta (0, 0))) (hb : w.heap[b.block]? = some (.cells cb tb (0, 0))) :
    Calls Tryz.prog 128 #[.iface 289 (.pointer (some a)), .iface 289 (.pointer (some b))] w fun e w' => e = .returned (.bool false) ∧ w = w' := by
  obtain ⟨i, hi, hcmp⟩ := Option.map_eq_some_iff.1 isComp
  obtain ⟨j, hj, hjs⟩ := Option.map_eq_some_iff.1 isSize
  have h8 := @run_callFunc_extern Tryz.prog 161 _ Extern.ReflectliteType.typeOf Tryz.func161 (by kernel_rfl) (by kernel_rfl) (by kernel_rfl) (by kernel_rfl)
  have tT := isTypeOf
  have cT := isComparable
  have mR := isMethodComparable
  have nE := noIsE
  have uE := noUnwrapE
  have vE := noUnwrapsE
  have heq := run_eql_iface_ptr_other (P := Tryz.prog) w Tryz.underlying127 Tryz.underlying289 hi hcmp hj (by rw [hjs]; decide) hne ha hb
  go_enter Tryz.func128, Tryz.ntmps128
  go_wp2
  refine wp_loop_rounds 1 ?_
  rw [rounds_succ]
  go_wp2
  go_ret
  exact ⟨rfl, rfl⟩
end Go.Proofs.YtohljainhkdiiaaGreatDoor
