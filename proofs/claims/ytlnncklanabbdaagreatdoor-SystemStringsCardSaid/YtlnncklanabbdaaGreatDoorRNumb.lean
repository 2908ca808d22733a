/- The reference's Number. -/
import Derived.Test.YtlnncklanabbdaaGreatDoorRActs
import Derived.Test.YtlnncklanabbdaaGreatDoorNumb
namespace Go.Proofs.YtlnncklanabbdaaGreatDoor
open Go.RowKit Pl

theorem dec_next (s : ByteArray) (k : Nat) (h : k < s.size) : decV (s.data.toList.take (k + 1)) = 10 * decV (s.data.toList.take k) + (s[k].toNat - 48) := by
  have h1 := byte_at s k h
  have hl : k < s.data.toList.length := by rw [← Lib.size_eq]; exact h
  rw [List.getElem?_eq_getElem hl] at h1
  rw [List.take_succ_eq_append_getElem hl, decV_snoc, Option.some.inj h1]
theorem sat_step (n D q : Nat) (hq : q ≤ 9) (hn : n = min D 9223372036854775807) :
    ((9223372036854775807 - q) / 10 < n → 9223372036854775807 = min (10 * D + q) 9223372036854775807) ∧ (n ≤ (9223372036854775807 - q) / 10 → 10 * n + q = min (10 * D + q) 9223372036854775807) := by
  constructor <;> intro h <;> omega

set_option maxRecDepth 100000 in
set_option maxHeartbeats 4000000 in
theorem RNumber_any (s : ByteArray) (hs : s.size ≤ 1000000) (w : World) :
    Calls Tryz.prog 96 #[.string s] w fun e w' => e = .returned (numT s.data.toList) ∧ w = w' := by
  by_cases h0 : s.size = 0
  · have e : s = ⟨#[]⟩ := by
      apply ByteArray.ext
      exact Array.eq_empty_of_size_eq_zero h0
    subst e
    have HN : Hid (numT (⟨#[]⟩ : ByteArray).data.toList = .tuple #[.int .i64 0, .bool false]) := Lib.hid (numT_none rfl)
    clear h0
    go_enter Tryz.func96, Tryz.ntmps96
    go_wp2
    go_ret2
    exact ⟨by rw [HN.out]; rfl, rfl⟩
  · have hp : 0 < s.size := by omega
    have hne : s.toList.isEmpty = false := by
      rw [ByteArray.toList_eq, List.isEmpty_eq_false_iff]
      intro e
      have h9 : s.size = 0 := by rw [Lib.size_eq, e]; rfl
      omega
    have hne2 : ¬ s.toList = [] := by
      intro e
      rw [e] at hne
      cases hne
    clear h0
    have hhead : s.data.toList.head? = some s[0] := by
      rw [← byte_at s 0 hp]; exact List.head?_eq_getElem? ..
    by_cases hl1 : 1 < s.size
    · have hl1' : (1 : Int) < s.size := by omega
      by_cases hl2 : s[0].toNat = 48
      · have h48 : (((s[0].toNat : Nat) : Int) == 48) = true := by rw [beq_iff_eq]; omega
        have HN := Lib.hid (numT_none (numV_lead (l := s.data.toList) (by rw [← Lib.size_eq]; exact hl1) (by rw [hhead]; congr 1; exact UInt8.toNat_inj.1 hl2)))
        clear hl2 hhead
        go_enter Tryz.func96, Tryz.ntmps96
        go_wp2
        go_ret2
        exact ⟨by rw [HN.out]; rfl, rfl⟩
      · have h48 : (((s[0].toNat : Nat) : Int) == 48) = false := by rw [beq_eq_false_iff_ne]; omega
        have HL : Hid (¬ (1 < s.data.toList.length ∧ s.data.toList.head? = some 48)) := Lib.hid (by
          rw [hhead]
          rintro ⟨_, e⟩
          apply hl2
          have := Option.some.inj e
          rw [this]; rfl)
        clear hl2 hhead
        go_enter Tryz.func96, Tryz.ntmps96
        go_wp2
        go_loop [4, 5, 6, 21] (fun nv _ _ i => ∃ (k n : Nat), k ≤ s.size ∧ i = .int .i64 k ∧ nv = .int .i64 n ∧ n ≤ 9223372036854775807 ∧ Hid (n = min (decV (s.data.toList.take k)) 9223372036854775807 ∧ ∀ j (hj : j < s.size), j < k → digB s[j] = true)) (fun _ _ _ i => s.size - (intOf i).toNat)
        case atStart => exact ⟨0, 0, Nat.zero_le _, rfl, rfl, Nat.zero_le _, Lib.hid ⟨rfl, fun j _ hj => absurd hj (Nat.not_lt_zero _)⟩⟩
        case round =>
          obtain ⟨k, n, hk, rfl, rfl, hn, hgood⟩ := hrel
          by_cases hlt : k < s.size
          · cases hd : digB s[k]
            · have HN := Lib.hid (numT_none (numV_bad (not_dig s k hlt hd)))
              have hd2 : ((s[k].toNat : Nat) : Int) < 48 ∨ (57 : Int) < ((s[k].toNat : Nat) : Int) := by
                have h3 := not_congr (digB_iff s[k])
                rw [hd] at h3
                simp at h3
                omega
              have hub : s[k].toNat < 256 := s[k].toNat_lt
              obtain ⟨X, HX⟩ : ∃ X : Nat, Hid (s[k].toNat = X) := ⟨_, Lib.hid rfl⟩
              have HXq := HX.out
              rw [HXq] at hd2 hub
              clear hd
              rcases hd2 with hd2 | hd2
              · go_wp2
                go_ret2
                exact ⟨by rw [HN.out]; rfl, rfl⟩
              · have hd3 : ¬ ((X : Nat) : Int) < 48 := by omega
                go_wp2
                go_ret2
                exact ⟨by rw [HN.out]; rfl, rfl⟩
            · have hd1 := (digB_iff s[k]).1 hd
              obtain ⟨X, HX⟩ : ∃ X : Nat, Hid (s[k].toNat = X) := ⟨_, Lib.hid rfl⟩
              have HXq := HX.out
              rw [HXq] at hd1
              obtain ⟨q, hq⟩ : ∃ q : Nat, X = 48 + q := ⟨X - 48, by omega⟩
              have hq9 : q ≤ 9 := by omega
              have HD := Lib.hid (dec_next s k hlt)
              subst hq
              have HG : Hid (∀ j (hj : j < s.size), j < k + 1 → digB s[j] = true) := Lib.hid fun j hj hjk => by
                by_cases e : j = k
                · subst e; exact hd
                · exact hgood.out.2 j hj (by omega)
              have HT := Lib.hid (sat_step n (decV (s.data.toList.take k)) q hq9 hgood.out.1)
              clear hd hd1
              have hsub : ((48 : Int) + (q : Int) - 48) = (q : Int) := by omega
              by_cases hc : (9223372036854775807 - q) / 10 < n
              · have hc' : (9223372036854775807 - (48 + (q : Int) - 48)) / 10 < (n : Int) := by rw [hsub]; omega
                have HR : Hid (9223372036854775807 = min (decV (s.data.toList.take (k + 1))) 9223372036854775807) := Lib.hid (by rw [HD.out, HX.out, Nat.add_sub_cancel_left]; exact HT.out.1 hc)
                clear hc
                go_wp2
                go_round
                case rel => exact ⟨k + 1, 9223372036854775807, by omega, by go_num, by go_num, Nat.le_refl _, Lib.hid ⟨HR.out, HG.out⟩⟩
                case measure => simp [intOf]; omega
              · have hc' : (n : Int) ≤ (9223372036854775807 - (48 + (q : Int) - 48)) / 10 := by rw [hsub]; omega
                have HR : Hid (10 * n + q = min (decV (s.data.toList.take (k + 1))) 9223372036854775807) := Lib.hid (by rw [HD.out, HX.out, Nat.add_sub_cancel_left]; exact HT.out.2 (by omega))
                have hm : 10 * n + q ≤ 9223372036854775807 := by omega
                clear hc
                go_wp2
                go_round
                case rel => exact ⟨k + 1, 10 * n + q, by omega, by go_num, by go_num, hm, Lib.hid ⟨HR.out, HG.out⟩⟩
                case measure => simp [intOf]; omega
          · obtain rfl : k = s.size := by omega
            have hall := all_dig s (fun j hj => hgood.out.2 j hj hj)
            have hnn : s.data.toList ≠ [] := by
              intro e
              have h9 : s.size = 0 := by rw [Lib.size_eq, e]; rfl
              omega
            have hnv : (n : Int) = min (decV s.data.toList : Int) 9223372036854775807 := by
              have h := hgood.out.1
              rw [List.take_of_length_le (by rw [← Lib.size_eq]; exact Nat.le_refl _)] at h
              omega
            have hnt := numT_some (numV_good hnn HL.out hall)
            rw [← hnv] at hnt
            have HN := Lib.hid hnt
            clear hall hnn hnv hnt
            go_wp2
            go_ret2
            exact ⟨by rw [HN.out]; rfl, rfl⟩
    · have hl1' : ¬ (1 : Int) < s.size := by omega
      have hl1'' : (s.size : Int) ≤ 1 := by omega
      have HL : Hid (¬ (1 < s.data.toList.length ∧ s.data.toList.head? = some 48)) := Lib.hid (by
        rw [← Lib.size_eq]
        rintro ⟨h, _⟩
        omega)
      · clear hhead
        go_enter Tryz.func96, Tryz.ntmps96
        go_wp2
        go_loop [4, 5, 6, 21] (fun nv _ _ i => ∃ (k n : Nat), k ≤ s.size ∧ i = .int .i64 k ∧ nv = .int .i64 n ∧ n ≤ 9223372036854775807 ∧ Hid (n = min (decV (s.data.toList.take k)) 9223372036854775807 ∧ ∀ j (hj : j < s.size), j < k → digB s[j] = true)) (fun _ _ _ i => s.size - (intOf i).toNat)
        case atStart => exact ⟨0, 0, Nat.zero_le _, rfl, rfl, Nat.zero_le _, Lib.hid ⟨rfl, fun j _ hj => absurd hj (Nat.not_lt_zero _)⟩⟩
        case round =>
          obtain ⟨k, n, hk, rfl, rfl, hn, hgood⟩ := hrel
          by_cases hlt : k < s.size
          · cases hd : digB s[k]
            · have HN := Lib.hid (numT_none (numV_bad (not_dig s k hlt hd)))
              have hd2 : ((s[k].toNat : Nat) : Int) < 48 ∨ (57 : Int) < ((s[k].toNat : Nat) : Int) := by
                have h3 := not_congr (digB_iff s[k])
                rw [hd] at h3
                simp at h3
                omega
              have hub : s[k].toNat < 256 := s[k].toNat_lt
              obtain ⟨X, HX⟩ : ∃ X : Nat, Hid (s[k].toNat = X) := ⟨_, Lib.hid rfl⟩
              have HXq := HX.out
              rw [HXq] at hd2 hub
              clear hd
              rcases hd2 with hd2 | hd2
              · go_wp2
                go_ret2
                exact ⟨by rw [HN.out]; rfl, rfl⟩
              · have hd3 : ¬ ((X : Nat) : Int) < 48 := by omega
                go_wp2
                go_ret2
                exact ⟨by rw [HN.out]; rfl, rfl⟩
            · have hd1 := (digB_iff s[k]).1 hd
              obtain ⟨X, HX⟩ : ∃ X : Nat, Hid (s[k].toNat = X) := ⟨_, Lib.hid rfl⟩
              have HXq := HX.out
              rw [HXq] at hd1
              obtain ⟨q, hq⟩ : ∃ q : Nat, X = 48 + q := ⟨X - 48, by omega⟩
              have hq9 : q ≤ 9 := by omega
              have HD := Lib.hid (dec_next s k hlt)
              subst hq
              have HG : Hid (∀ j (hj : j < s.size), j < k + 1 → digB s[j] = true) := Lib.hid fun j hj hjk => by
                by_cases e : j = k
                · subst e; exact hd
                · exact hgood.out.2 j hj (by omega)
              have HT := Lib.hid (sat_step n (decV (s.data.toList.take k)) q hq9 hgood.out.1)
              clear hd hd1
              have hsub : ((48 : Int) + (q : Int) - 48) = (q : Int) := by omega
              by_cases hc : (9223372036854775807 - q) / 10 < n
              · have hc' : (9223372036854775807 - (48 + (q : Int) - 48)) / 10 < (n : Int) := by rw [hsub]; omega
                have HR : Hid (9223372036854775807 = min (decV (s.data.toList.take (k + 1))) 9223372036854775807) := Lib.hid (by rw [HD.out, HX.out, Nat.add_sub_cancel_left]; exact HT.out.1 hc)
                clear hc
                go_wp2
                go_round
                case rel => exact ⟨k + 1, 9223372036854775807, by omega, by go_num, by go_num, Nat.le_refl _, Lib.hid ⟨HR.out, HG.out⟩⟩
                case measure => simp [intOf]; omega
              · have hc' : (n : Int) ≤ (9223372036854775807 - (48 + (q : Int) - 48)) / 10 := by rw [hsub]; omega
                have HR : Hid (10 * n + q = min (decV (s.data.toList.take (k + 1))) 9223372036854775807) := Lib.hid (by rw [HD.out, HX.out, Nat.add_sub_cancel_left]; exact HT.out.2 (by omega))
                have hm : 10 * n + q ≤ 9223372036854775807 := by omega
                clear hc
                go_wp2
                go_round
                case rel => exact ⟨k + 1, 10 * n + q, by omega, by go_num, by go_num, hm, Lib.hid ⟨HR.out, HG.out⟩⟩
                case measure => simp [intOf]; omega
          · obtain rfl : k = s.size := by omega
            have hall := all_dig s (fun j hj => hgood.out.2 j hj hj)
            have hnn : s.data.toList ≠ [] := by
              intro e
              have h9 : s.size = 0 := by rw [Lib.size_eq, e]; rfl
              omega
            have hnv : (n : Int) = min (decV s.data.toList : Int) 9223372036854775807 := by
              have h := hgood.out.1
              rw [List.take_of_length_le (by rw [← Lib.size_eq]; exact Nat.le_refl _)] at h
              omega
            have hnt := numT_some (numV_good hnn HL.out hall)
            rw [← hnv] at hnt
            have HN := Lib.hid hnt
            clear hall hnn hnv hnt
            go_wp2
            go_ret2
            exact ⟨by rw [HN.out]; rfl, rfl⟩
end Go.Proofs.YtlnncklanabbdaaGreatDoor
