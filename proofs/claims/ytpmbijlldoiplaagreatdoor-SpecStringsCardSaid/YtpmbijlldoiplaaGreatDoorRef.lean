/- The reference's List, String and Parse. -/
import Derived.Test.YtpmbijlldoiplaaGreatDoorStr
import Derived.Test.YtpmbijlldoiplaaGreatDoorParse
import Derived.Test.YtpmbijlldoiplaaGreatDoorRList
namespace Go.Proofs.YtpmbijlldoiplaaGreatDoor
open Go.RowKit Pl

theorem bits_mem : ∀ n, n ≤ 8 → ∀ y, y < 256 → y < 2 ^ n → bitsL n y = memL y := by decide +kernel
theorem join_snoc (xs : List (List UInt8)) (y sep : List UInt8) : Lib.join (xs ++ [y]) sep = if xs.isEmpty then y else Lib.join xs sep ++ sep ++ y := by
  cases xs with
  | nil => exact Lib.join_one y sep
  | cons x r =>
    rw [List.cons_append, Lib.join_cons, Lib.join_cons]
    simp [Lib.joinTail]
/-- the names of some actions, with commas, behind the bracket -/
def openS (ss : List ByteArray) (ks : List Nat) : List UInt8 := [123] ++ Lib.join (ks.map fun k => (at_ ss k).data.toList) [44]
theorem openS_first (ss : List ByteArray) (ks : List Nat) (k : Nat) (h : ks.isEmpty = true) : openS ss (ks ++ [k]) = openS ss ks ++ (at_ ss k).data.toList := by
  obtain rfl := List.isEmpty_iff.1 h
  unfold openS
  rw [List.nil_append, List.map_cons, List.map_nil, Lib.join_one, Lib.join_nil, List.append_nil]
theorem openS_next (ss : List ByteArray) (ks : List Nat) (k : Nat) (h : ks.isEmpty = false) : openS ss (ks ++ [k]) = openS ss ks ++ [44] ++ (at_ ss k).data.toList := by
  unfold openS
  rw [List.map_append, List.map_cons, List.map_nil, join_snoc, List.isEmpty_map, h, if_neg (by decide)]
  simp
theorem openS_len {ss : List ByteArray} (ha : actsB ss = true) (n y : Nat) (hn : n ≤ ss.length) : (openS ss (bitsL n y)).length ≤ 200 := by
  have h8 := ((actsB_iff ss).1 ha).1
  have h1 := join_bound 20 ((bitsL n y).map fun k => (at_ ss k).data.toList) (fun x hx => by
    rw [List.mem_map] at hx
    obtain ⟨k, hk, rfl⟩ := hx
    exact name_size (((actsB_iff ss).1 ha).2 k (by have := bitsL_lt hk; omega)).1)
  rw [List.length_map] at h1
  have h2 := bitsL_len n y
  have h3 : (20 + 1) * (bitsL n y).length ≤ 21 * 8 := Nat.mul_le_mul_left _ (by omega)
  unfold openS
  rw [List.length_append, List.length_singleton]
  omega
theorem size_of_list {S : ByteArray} {l : List UInt8} (h : S.data.toList = l) : S.size = l.length := by
  rw [← h, Array.length_toList]
  rfl

set_option maxRecDepth 100000 in
set_option maxHeartbeats 1000000 in
theorem RString_any {w : World} {a : Option Addr} {n c : Nat} {ss : List ByteArray} (y : Nat) (hy : y < 256) (ha : actsB ss = true) (A : StrArg w a n c ss) :
    Calls Tryz.prog 60 #[.slice a n c, .int .i64 y] w fun e w' => (∃ S : ByteArray, e = .returned (.string S) ∧ S.data.toList = openS ss (bitsL n y) ++ [125]) ∧ w = w' := by
  have h8 : n ≤ 8 := by have := ((actsB_iff ss).1 ha).1; have := A.len; omega
  have HA := Lib.hid A
  have HB := Lib.hid ha
  clear A ha
  go_enter Tryz.func60, Tryz.ntmps60
  go_wp2
  go_loop [5, 6, 7, 8, 11] (fun s f _ _ i => ∃ k : Nat, k ≤ n ∧ i = .int .i64 k ∧ ∃ S : ByteArray, s = .string S ∧ ∃ b, f = .bool b ∧ Hid ((bitsL k y).isEmpty = b) ∧ Hid (S.data.toList = openS ss (bitsL k y))) (fun _ _ _ _ i => n - (intOf i).toNat)
  case atStart => exact ⟨0, Nat.zero_le _, rfl, _, rfl, _, rfl, Lib.hid rfl, Lib.hid rfl⟩
  case round =>
    obtain ⟨k, hk, rfl, S, rfl, b, rfl, hE, hS⟩ := hrel
    have hSz : S.size ≤ 200 := by
      rw [size_of_list hS.out]
      exact openS_len HB.out k y (by have := HA.out.len; omega)
    by_cases hlt : k < n
    · have hkx : Hid (k < ss.length) := Lib.hid (by have := HA.out.len; omega)
      obtain ⟨ba, off, rfl, hcell⟩ := HA.out.cells k hkx.out
      obtain ⟨X, HX⟩ : ∃ X, Hid (at_ ss k = X) := ⟨_, Lib.hid rfl⟩
      have hX : X.size ≤ 20 := by rw [← HX.out]; exact name_size (((actsB_iff ss).1 HB.out).2 k hkx.out).1
      have hcell' : w.cell? ⟨ba, off + k, none⟩ = some (.string X) := by rw [← HX.out]; exact hcell
      clear hcell
      have HH := Lib.hid (has_at y k (by omega) (by omega))
      cases hb : y.testBit k
      · have HG := Lib.hid (bitsL_no k y hb)
        rw [hb] at HH
        clear hb
        go_wp2_with fail
        refine (HH.out _).mono ?_
        rintro e w' ⟨rfl, rfl⟩
        go_wp2
        go_round
        case rel => exact ⟨k + 1, by omega, by go_num, S, rfl, b, rfl, by rw [HG.out]; exact hE, by rw [HG.out]; exact hS⟩
        case measure => simp [intOf]; omega
      · have HG := Lib.hid (bitsL_yes k y hb)
        have HE' : Hid ((bitsL k y ++ [k]).isEmpty = false) := Lib.hid (by simp)
        rw [hb] at HH
        clear hb
        cases b
        · have HN : Hid (∀ S' : ByteArray, S' = S ++ ⟨#[44]⟩ ++ X → S'.data.toList = openS ss (bitsL k y ++ [k])) := Lib.hid fun S' h => by
            rw [openS_next ss _ k hE.out, h, HX.out, ← hS.out]
            simp [ByteArray.data_append]
          go_wp2_with fail
          refine (HH.out _).mono ?_
          rintro e w' ⟨rfl, rfl⟩
          go_wp2
          go_round
          case rel => exact ⟨k + 1, by omega, by go_num, _, rfl, false, rfl, by rw [HG.out]; exact HE', by rw [HG.out]; exact Lib.hid (HN.out _ rfl)⟩
          case measure => simp [intOf]; omega
        · have HN : Hid (∀ S' : ByteArray, S' = S ++ X → S'.data.toList = openS ss (bitsL k y ++ [k])) := Lib.hid fun S' h => by
            rw [openS_first ss _ k hE.out, h, HX.out, ← hS.out]
            simp [ByteArray.data_append]
          go_wp2_with fail
          refine (HH.out _).mono ?_
          rintro e w' ⟨rfl, rfl⟩
          go_wp2
          go_round
          case rel => exact ⟨k + 1, by omega, by go_num, _, rfl, false, rfl, by rw [HG.out]; exact HE', by rw [HG.out]; exact Lib.hid (HN.out _ rfl)⟩
          case measure => simp [intOf]; omega
    · obtain rfl : n = k := by omega
      go_wp2
      go_ret
      exact ⟨⟨_, rfl, by rw [← hS.out]; simp [ByteArray.data_append]⟩, rfl⟩

/-- what the reference's Parse answers -/
def refParse (ss : List ByteArray) (s : ByteArray) : Value := match parseO ss s.data.toList with | some y => .tuple #[.int .i64 y, .bool true] | none => .tuple #[.int .i64 0, .bool false]
theorem open_set {ss : List ByteArray} {n y : Nat} (h8 : n ≤ 8) (hy : y < 256) (hn : y < 2 ^ n) : openS ss (bitsL n y) ++ [125] = setS ss y := by
  rw [bits_mem n h8 y hy hn]
  rfl

set_option maxRecDepth 100000 in
set_option maxHeartbeats 1000000 in
theorem RParse_any {w : World} {a : Option Addr} {n c : Nat} {ss : List ByteArray} (s : ByteArray) (ha : actsB ss = true) (A : StrArg w a n c ss) :
    Calls Tryz.prog 107 #[.slice a n c, .string s] w fun e w' => e = .returned (refParse ss s) ∧ w = w' := by
  have h8 : n ≤ 8 := by have := ((actsB_iff ss).1 ha).1; have := A.len; omega
  obtain ⟨p1, p2⟩ := pow_le n (by omega)
  have hN : ((2 ^ n : Nat) : Int) = (2 : Int) ^ n := by norm_cast
  have hN8 : 2 ^ n ≤ 2 ^ 8 := Nat.pow_le_pow_right (by decide) h8
  obtain ⟨N, HN⟩ : ∃ N : Nat, Hid (2 ^ n = N) := ⟨_, Lib.hid rfl⟩
  rw [HN.out] at hN hN8
  have HNN := Lib.hid hN
  have HA := Lib.hid A
  have HB := Lib.hid ha
  clear A ha hN
  go_enter Tryz.func107, Tryz.ntmps107
  go_wp2
  go_loop [6, 10] (fun _ i => ∃ k : Nat, k ≤ N ∧ i = .int .i64 k ∧ Hid (∀ j, j < k → s.data.toList ≠ setS ss j)) (fun _ i => N - (intOf i).toNat)
  case atStart => exact ⟨0, Nat.zero_le _, rfl, Lib.hid fun j hj => absurd hj (Nat.not_lt_zero _)⟩
  case round =>
    obtain ⟨k, hk, rfl, hne⟩ := hrel
    by_cases hlt : k < N
    · have hlt' : (k : Int) < 2 ^ n := by rw [← HNN.out]; omega
      have HS := Lib.hid (RString_any k (by omega) HB.out HA.out)
      go_wp2_with fail
      refine HS.out.mono ?_
      rintro e w' ⟨⟨S, rfl, hS⟩, rfl⟩
      rw [open_set h8 (by omega) (by rw [HN.out]; exact hlt)] at hS
      have HS' := Lib.hid hS
      clear hS
      by_cases he : S = s
      · have heq : (S.toList == s.toList) = true := (Lib.bytes_beq_iff _ _).2 he
        have HV : Hid (refParse ss s = .tuple #[.int .i64 k, .bool true]) := Lib.hid (by
          unfold refParse
          rw [(parse_iff HB.out s.data.toList k).2 ⟨by rw [← HA.out.len, HN.out]; exact hlt, by rw [← he]; exact HS'.out⟩])
        clear he
        go_wp2
        go_ret2
        exact ⟨by rw [HV.out]; rfl, rfl⟩
      · have heq : (S.toList == s.toList) = false := (Lib.bytes_beq_false_iff _ _).2 he
        have hne' : Hid (∀ j, j < k + 1 → s.data.toList ≠ setS ss j) := Lib.hid fun j hj => by
          by_cases e : j = k
          · subst e
            intro h
            exact he (ByteArray.ext (Array.toList_inj.1 (HS'.out.trans h.symm)))
          · exact hne.out j (by omega)
        clear he
        go_wp2
        go_round
        case rel => exact ⟨k + 1, by omega, by go_num, hne'⟩
        case measure => simp [intOf]; omega
    · have hlt' : ¬ (k : Int) < 2 ^ n := by rw [← HNN.out]; omega
      have HV : Hid (refParse ss s = .tuple #[.int .i64 0, .bool false]) := Lib.hid (by
        unfold refParse
        cases ho : parseO ss s.data.toList with
        | none => rfl
        | some y =>
          have h1 := (parse_iff HB.out s.data.toList y).1 ho
          rw [← HA.out.len, HN.out] at h1
          exact absurd h1.2 (hne.out y (by omega)))
      go_wp2
      go_ret2
      exact ⟨by rw [HV.out]; rfl, rfl⟩
end Go.Proofs.YtpmbijlldoiplaaGreatDoor
