/- ActBack: Parse of String returns the set, and List has just the actions whose bits are set. -/
import Derived.Test.YtcbmlchlllpnoaaDoorCopied
namespace Go.Proofs.YtcbmlchlllpnoaaDoor
open Go.RowKit Pl

def sumL (ks : List Nat) : Nat := ks.foldl (fun x k => x + 2 ^ k) 0
theorem sumL_snoc (ks : List Nat) (k : Nat) : sumL (ks ++ [k]) = sumL ks + 2 ^ k := by simp [sumL]
theorem sum_memL : ∀ y, y < 256 → sumL (memL y) = y := by decide +kernel
theorem sum_take : ∀ y, y < 256 → ∀ i, i ≤ 8 → sumL ((memL y).take i) < 256 := by decide +kernel
theorem memL_up : ∀ y, y < 256 → ∀ i, i < 8 → i + 1 < (memL y).length → (memL y).getD i 0 < (memL y).getD (i + 1) 0 := by decide +kernel

theorem setS_len {ss : List ByteArray} (ha : actsB ss = true) (y : Nat) (hy : ∀ k ∈ memL y, k < ss.length) : (setS ss y).length ≤ 170 := by
  have h1 := join_bound 20 ((memL y).map fun k => (at_ ss k).data.toList) (fun x hx => by
    rw [List.mem_map] at hx
    obtain ⟨k, hk, rfl⟩ := hx
    exact name_size (((actsB_iff ss).1 ha).2 k (hy k hk)).1)
  rw [List.length_map] at h1
  have h2 := memL_len y
  have h3 : (20 + 1) * (memL y).length ≤ 21 * 8 := Nat.mul_le_mul_left _ h2
  unfold setS
  rw [List.length_append, List.length_append, List.length_singleton, List.length_singleton]
  omega

set_option maxRecDepth 100000 in
set_option maxHeartbeats 2000000 in
theorem ActBack_no {w : World} {a : Option Addr} {n c : Nat} {ss : List ByteArray} {e0 e1 e2 : Addr} (x : Int) (E : Errs w e0 e1 e2) (T : Tab w) (A : StrArg w a n c ss) (hr : n * 16 ≤ 140737488351232) (hz : setCode ss [x] ≠ 0) :
    Calls Tryd.prog 6 #[.slice a n c, .int .i64 x] w fun e w' => e = .returned (.bool true) ∧ Below w.heap.size w w' := by
  have H1 := Lib.hid (copied_any A hr)
  have HE := Lib.hid E
  have HT := Lib.hid T
  have HV : Hid (stringV ss x = .tuple #[.string ⟨#[]⟩, .int .i64 (setCode ss [x])]) := Lib.hid (by unfold stringV; rw [if_neg hz])
  have hne : (setCode ss [x] != 0) = true := by rw [bne_iff_ne]; exact hz
  clear E T A
  go_enter Tryd.func6, Tryd.ntmps6
  go_wp2_with fail
  refine H1.out.mono ?_
  rintro e w1 ⟨a', c', rfl, hA, hb1⟩
  have HA := Lib.hid hA
  clear hA
  go_wp2_with fail
  refine (String_any x (HE.out.below hb1) (HT.out.below hb1) HA.out).mono ?_
  rintro e w2 ⟨rfl, hb2⟩
  rw [HV.out]
  have b12 := hb1.trans (hb2.mono hb1.size)
  go_wp2_with fail
  refine (awake_any (HE.out.below b12) (HT.out.below b12)).mono ?_
  rintro e w3 ⟨rfl, hb3⟩
  go_wp2
  go_ret
  exact ⟨rfl, b12.trans (hb3.mono b12.size)⟩

set_option maxRecDepth 100000 in
set_option maxHeartbeats 4000000 in
theorem ActBack_yes {w : World} {a : Option Addr} {n c : Nat} {ss : List ByteArray} {e0 e1 e2 : Addr} (y : Nat) (E : Errs w e0 e1 e2) (T : Tab w) (A : StrArg w a n c ss) (hr : n * 16 ≤ 140737488351232) (hz : setCode ss [(y : Int)] = 0) :
    Calls Tryd.prog 6 #[.slice a n c, .int .i64 y] w fun e w' => e = .returned (.bool true) ∧ Below w.heap.size w w' := by
  have hab : actsB ss = true ∧ [(y : Int)].all (setB ss.length) = true := set_ok hz
  have h8 : n ≤ 8 := by have := ((actsB_iff ss).1 hab.1).1; have := A.len; omega
  have hlt := (set_lt hab.1 hab.2).2
  have hy : (y : Int) < 2 ^ n := by have := hab.2; rw [List.all_cons, List.all_nil, Bool.and_true, setB_iff, ← A.len] at this; exact this.2
  have hyN : y < 2 ^ ss.length := by
    rw [← A.len]
    have h3 : ((2 ^ n : Nat) : Int) = (2 : Int) ^ n := by norm_cast
    omega
  have HE := Lib.hid E
  have HT := Lib.hid T
  have HV : Hid (stringV ss y = .tuple #[.string ⟨(setS ss y).toArray⟩, .int .i64 0]) := Lib.hid (by unfold stringV; rw [if_pos hz]; rfl)
  obtain ⟨S, HSe⟩ : ∃ S : ByteArray, Hid (S = ⟨(setS ss y).toArray⟩) := ⟨_, Lib.hid rfl⟩
  have hS : S.size ≤ 9223372036854775807 := by
    have h1 := setS_len hab.1 y (fun k hk => by have := memL_in hk hy; have := A.len; omega)
    rw [HSe.out]
    show (setS ss y).toArray.size ≤ _
    rw [List.size_toArray]
    omega
  have HP : Hid (ParseV ss S = .tuple #[.int .i64 y, .int .i64 0]) := Lib.hid (by
    unfold ParseV
    rw [hab.1, (parse_iff hab.1 S.data.toList y).2 ⟨hyN, by rw [HSe.out]⟩]
    rfl)
  rw [← HSe.out] at HV
  have HL : Hid (listL ss (y : Int) = memL y) := Lib.hid (by unfold listL; rw [if_pos hz]; rfl)
  have HZ := Lib.hid hz
  have HA := Lib.hid A
  clear hz hab E T A
  go_enter Tryd.func6, Tryd.ntmps6
  go_wp2_with fail
  refine (copied_any HA.out hr).mono ?_
  rintro e w1 ⟨a', c', rfl, hA', hb1⟩
  have HA' := Lib.hid hA'
  clear hA'
  go_wp2_with fail
  refine (String_any y (HE.out.below hb1) (HT.out.below hb1) HA'.out).mono ?_
  rintro e w2 ⟨rfl, hb2⟩
  rw [HV.out]
  have b2 := hb1.trans (hb2.mono hb1.size)
  go_wp2_with fail
  refine (copied_any (HA.out.below b2) hr).mono ?_
  rintro e w3 ⟨a3, c3, rfl, hA3, hb3⟩
  have HA3 := Lib.hid hA3
  clear hA3
  have b3 := b2.trans (hb3.mono b2.size)
  go_wp2_with fail
  refine (Parse_any S hS (HE.out.below b3) HA3.out).mono ?_
  rintro e w4 ⟨rfl, hb4⟩
  rw [HP.out]
  have b4 := b3.trans (hb4.mono b3.size)
  go_wp2_with fail
  refine (copied_any (HA.out.below b4) hr).mono ?_
  rintro e w5 ⟨a5, c5, rfl, hA5, hb5⟩
  have HA5 := Lib.hid hA5
  clear hA5
  have b5 := b4.trans (hb5.mono b4.size)
  go_wp2_with fail
  refine (List_any y (HE.out.below b5) (HT.out.below b5) HA5.out).mono ?_
  rintro e w6 ⟨v, rfl, hrow, hb6⟩
  have b6 := b5.trans (hb6.mono b5.size)
  rw [HL.out] at hrow
  rw [HZ.out]
  obtain ⟨av, cv, rfl, hI⟩ := ints_of_row (xs := (memL y).map (fun k : Nat => (k : Int))) (by rw [List.map_map]; exact hrow) (by rw [List.length_map]) (by have := memL_len y; omega)
  have HI := Lib.hid hI
  obtain ⟨m, hm⟩ : ∃ m, (memL y).length = m := ⟨_, rfl⟩
  have hm8 : m ≤ 8 := by rw [← hm]; exact memL_len y
  rw [hm] at HI ⊢
  have HM := Lib.hid hm
  clear hrow hI hm
  go_wp2
  go_loop [11, 12, 13, 40] (fun q _ _ z => ∃ i : Nat, i ≤ m ∧ z = .int .i64 i ∧ q = .int .i64 (sumL ((memL y).take i))) (fun _ _ _ z => m - (intOf z).toNat)
  case atStart => exact ⟨0, Nat.zero_le _, rfl, rfl⟩
  case round =>
    obtain ⟨i, hi, rfl, rfl⟩ := hrel
    have hsum := sum_take y (by omega) i (by omega)
    by_cases hlt' : i < m
    · have hget : ∀ j, j < m → ((memL y).map (fun k : Nat => (k : Int))).getD j 0 = (((memL y).getD j 0 : Nat) : Int) := fun j hj => by
        have h1 : j < (memL y).length := by rw [HM.out]; exact hj
        simp [List.getD, h1]
      have hmem : (memL y).getD i 0 ∈ memL y := by
        have h1 : i < (memL y).length := by rw [HM.out]; exact hlt'
        rw [List.getD_eq_getElem?_getD, List.getElem?_eq_getElem h1]
        exact List.getElem_mem h1
      have hkn := memL_in hmem hy
      have hk8 := memL_lt hmem
      obtain ⟨b, off, rfl, hcell⟩ := HI.out.cells i (by rw [List.length_map, HM.out]; exact hlt')
      rw [hget i hlt'] at hcell
      have hsn : sumL ((memL y).take (i + 1)) = sumL ((memL y).take i) + 2 ^ (memL y).getD i 0 := by
        have h1 : i < (memL y).length := by rw [HM.out]; exact hlt'
        rw [List.take_succ_eq_append_getElem h1, sumL_snoc]
        simp [List.getD, h1]
      have hup : ∀ j, i = j + 1 → (memL y).getD j 0 < (memL y).getD i 0 := fun j hj => by
        subst hj
        exact memL_up y (by omega) j (by omega) (by rw [HM.out]; exact hlt')
      obtain ⟨k, hk⟩ : ∃ k, (memL y).getD i 0 = k := ⟨_, rfl⟩
      rw [hk] at hcell hkn hk8 hsn hup
      obtain ⟨sm, hsm⟩ : ∃ sm, sumL ((memL y).take i) = sm := ⟨_, rfl⟩
      rw [hsm] at hsum hsn ⊢
      obtain ⟨p1, p2⟩ := pow_le k (by omega)
      have HN : Hid (∀ u : Int, u = (sm : Int) + 2 ^ k → u = (sumL ((memL y).take (i + 1)) : Int)) := Lib.hid fun u hu => by
        rw [hu, hsn]
        norm_cast
      have HK := Lib.hid hk
      clear hmem hsn hk hsm
      cases i with
      | zero =>
        rw [Nat.add_zero] at hcell
        clear hup hget
        go_wp2
        go_round
        case rel => exact ⟨1, by omega, rfl, by rw [HN.out _ rfl]⟩
        case measure => simp [intOf]; omega
      | succ j =>
        have hlo := hup j rfl
        obtain ⟨b', off', e', hcell'⟩ := HI.out.cells j (by rw [List.length_map, HM.out]; omega)
        cases e'
        rw [hget j (by omega)] at hcell'
        obtain ⟨k', hk'⟩ : ∃ k', (memL y).getD j 0 = k' := ⟨_, rfl⟩
        rw [hk'] at hlo hcell'
        clear hup hget hk'
        go_wp2
        go_round
        case rel => exact ⟨j + 1 + 1, by omega, by go_num, by rw [HN.out _ rfl]⟩
        case measure => simp [intOf]; omega
    · have hlast : sumL ((memL y).take i) = y := by
        rw [List.take_of_length_le (by rw [HM.out]; omega)]
        exact sum_memL y (by omega)
      rw [hlast]
      have hyy : ((y : Int) == y) = true := by simp
      clear hlast
      go_wp2_with fail
      refine (awake_any (HE.out.below b6) (HT.out.below b6)).mono ?_
      rintro e w7 ⟨rfl, hb7⟩
      go_wp2
      go_ret
      exact ⟨rfl, b6.trans (hb7.mono b6.size)⟩

/-- ActBack, whatever the list and the number -/
theorem ActBack_any {w : World} {a : Option Addr} {n c : Nat} {ss : List ByteArray} {e0 e1 e2 : Addr} (x : Int) (E : Errs w e0 e1 e2) (T : Tab w) (A : StrArg w a n c ss) (hr : n * 16 ≤ 140737488351232) (_hx : (Lit.int .i64 x).wf = true) :
    Calls Tryd.prog 6 #[.slice a n c, .int .i64 x] w fun e w' => e = .returned (.bool true) ∧ Below w.heap.size w w' := by
  by_cases hz : setCode ss [x] = 0
  · have h0 : setB ss.length x = true := by
      have h1 := (set_ok hz).2
      rwa [List.all_cons, List.all_nil, Bool.and_true] at h1
    rw [setB_iff] at h0
    obtain ⟨y, rfl⟩ := Int.eq_ofNat_of_zero_le h0.1
    exact ActBack_yes y E T A hr hz
  · exact ActBack_no x E T A hr hz
end Go.Proofs.YtcbmlchlllpnoaaDoor
