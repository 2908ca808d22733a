/- parseNumber; the reference's Number. -/
import Derived.Test.YtlnncklanabbdaaGreatDoorStrPl
import Derived.WalkSpells
namespace Go.Proofs.YtlnncklanabbdaaGreatDoor
open Go.RowKit Pl

def numT (l : List UInt8) : Value := match numV l with | some x => .tuple #[.int .i64 x, .bool true] | none => .tuple #[.int .i64 0, .bool false]
theorem numT_none {l : List UInt8} (h : numV l = none) : numT l = .tuple #[.int .i64 0, .bool false] := by unfold numT; rw [h]
theorem numT_some {l : List UInt8} {x : Int} (h : numV l = some x) : numT l = .tuple #[.int .i64 x, .bool true] := by unfold numT; rw [h]
theorem byte_at (s : ByteArray) (k : Nat) (h : k < s.size) : s.data.toList[k]? = some s[k] := by
  rw [Array.getElem?_toList]; exact Array.getElem?_eq_getElem h
theorem all_dig (s : ByteArray) (h : ∀ k (hk : k < s.size), digB s[k] = true) : s.data.toList.all digB = true := by
  rw [List.all_eq_true]
  intro c hc
  obtain ⟨k, hk, rfl⟩ := List.getElem_of_mem hc
  have := h k (by rw [Lib.size_eq]; exact hk)
  have e : s.data.toList[k] = s[k]'(by rw [Lib.size_eq]; exact hk) := by
    have h1 := byte_at s k (by rw [Lib.size_eq]; exact hk)
    rw [List.getElem?_eq_getElem hk] at h1
    exact Option.some.inj h1
  rw [e]; exact this
theorem not_dig (s : ByteArray) (k : Nat) (hk : k < s.size) (h : digB s[k] = false) : s.data.toList.all digB = false := by
  rw [List.all_eq_false]
  refine ⟨s[k], ?_, by rw [h]; decide⟩
  have h1 := byte_at s k hk
  exact List.mem_of_getElem? h1

set_option maxRecDepth 100000 in
set_option maxHeartbeats 2000000 in
theorem parseNumber_any (s : ByteArray) (hs : s.size ≤ 281474976710656) (w : World) (E : Env w) :
    Calls Tryz.prog 104 #[.string s] w fun e w' => e = .returned (numT s.data.toList) ∧ Below w.heap.size w w' := by
  have HE := Lib.hid E
  clear E
  by_cases h0 : s.size = 0
  · have e : s = ⟨#[]⟩ := by
      apply ByteArray.ext
      exact Array.eq_empty_of_size_eq_zero h0
    subst e
    have HN : Hid (numT (⟨#[]⟩ : ByteArray).data.toList = .tuple #[.int .i64 0, .bool false]) := Lib.hid (numT_none rfl)
    clear h0
    go_enter Tryz.func104, Tryz.ntmps104
    go_wp2
    go_ret2
    exact ⟨by rw [HN.out]; rfl, Below.refl _ _⟩
  · have hp : 0 < s.size := by omega
    have hne : s.toList.isEmpty = false := by
      rw [ByteArray.toList_eq, List.isEmpty_eq_false_iff]
      intro e
      have h9 : s.size = 0 := by rw [Lib.size_eq, e]; rfl
      omega
    have hne2 : ¬ s.toList = [] := by
      intro e
      rw [e] at hne
      cases hne
    clear h0
    have hhead : s.data.toList.head? = some s[0] := by
      rw [← byte_at s 0 hp]; exact List.head?_eq_getElem? ..
    by_cases hl1 : 1 < s.size
    · have hl1' : (1 : Int) < s.size := by omega
      by_cases hl2 : s[0].toNat = 48
      · have h48 : (((s[0].toNat : Nat) : Int) == 48) = true := by rw [beq_iff_eq]; omega
        have HN := Lib.hid (numT_none (numV_lead (l := s.data.toList) (by rw [← Lib.size_eq]; exact hl1) (by rw [hhead]; congr 1; exact UInt8.toNat_inj.1 hl2)))
        clear hl2 hhead
        go_enter Tryz.func104, Tryz.ntmps104
        go_wp2
        go_ret2
        exact ⟨by rw [HN.out]; rfl, Below.refl _ _⟩
      · have h48 : (((s[0].toNat : Nat) : Int) == 48) = false := by rw [beq_eq_false_iff_ne]; omega
        have HL : Hid (¬ (1 < s.data.toList.length ∧ s.data.toList.head? = some 48)) := Lib.hid (by
          rw [hhead]
          rintro ⟨_, e⟩
          apply hl2
          have := Option.some.inj e
          rw [this]; rfl)
        clear hl2 hhead
        go_enter Tryz.func104, Tryz.ntmps104
        go_wp2
        go_loopw [4, 21] (fun _ i wr => ∃ k : Nat, k ≤ s.size ∧ i = .int .i64 k ∧ Hid (∀ j (hj : j < s.size), j < k → digB s[j] = true) ∧ w = wr) (fun _ i _ => s.size - (intOf i).toNat)
        case atStart => exact ⟨0, Nat.zero_le _, rfl, Lib.hid fun j _ hj => absurd hj (Nat.not_lt_zero _), rfl⟩
        case round =>
          obtain ⟨k, hk, rfl, hgood, rfl⟩ := hrel
          by_cases hlt : k < s.size
          · cases hd : digB s[k]
            · have HN := Lib.hid (numT_none (numV_bad (not_dig s k hlt hd)))
              have hd2 : ((s[k].toNat : Nat) : Int) < 48 ∨ (57 : Int) < ((s[k].toNat : Nat) : Int) := by
                have h3 := not_congr (digB_iff s[k])
                rw [hd] at h3
                simp at h3
                omega
              clear hd
              rcases hd2 with hd2 | hd2
              · go_wp2
                go_ret2
                exact ⟨by rw [HN.out]; rfl, Below.refl _ _⟩
              · have hd3 : ¬ ((s[k].toNat : Nat) : Int) < 48 := by omega
                go_wp2
                go_ret2
                exact ⟨by rw [HN.out]; rfl, Below.refl _ _⟩
            · have hd1 := (digB_iff s[k]).1 hd
              have hd2 : (48 : Int) ≤ ((s[k].toNat : Nat) : Int) := by omega
              have hd3 : ((s[k].toNat : Nat) : Int) ≤ 57 := by omega
              have HG : Hid (∀ j (hj : j < s.size), j < k + 1 → digB s[j] = true) := Lib.hid fun j hj hjk => by
                by_cases e : j = k
                · subst e; exact hd
                · exact hgood.out j hj (by omega)
              clear hd hd1
              go_wp2
              go_roundw
              case rel => exact ⟨k + 1, by omega, by go_num, HG, trivial⟩
              case measure => simp [intOf]; omega
          · have hall := all_dig s (fun j hj => hgood.out j hj (by omega))
            have hnn : s.data.toList ≠ [] := by
              intro e
              have h9 : s.size = 0 := by rw [Lib.size_eq, e]; rfl
              omega
            have HN := Lib.hid (numT_some (numV_good hnn HL.out hall))
            obtain ⟨v, HV⟩ : ∃ v, Hid (min (decV s.data.toList : Int) 9223372036854775807 = v) := ⟨_, Lib.hid rfl⟩
            rw [HV.out] at HN
            have HAt := atoi_digits hnn hall
            rw [HV.out] at HAt
            clear hall hnn
            rcases HAt with h1 | ⟨h1, h2⟩
            · have HC := Lib.hid (Tryz.strconv_Atoi_ok s (by omega) v h1 w)
              clear h1
              go_wp2_with fail
              refine HC.out.mono ?_
              rintro e w2 ⟨rfl, hw2⟩
              have hb : Below w.heap.size w w2 := by
                rcases hw2 with rfl | ⟨t, rfl⟩
                · exact Below.refl _ _
                · exact Lib.bytesWorld_below _ _ _
              have HB := Lib.hid hb
              clear hb hw2
              go_wp2
              go_ret2
              exact ⟨by rw [HN.out]; rfl, HB.out⟩
            · obtain ⟨tp, p, hvar⟩ := HE.out.range
              have HC := Tryz.strconv_Atoi_range_var s hs h1 tp p w hvar
              rw [h2] at HC
              have HC := Lib.hid HC
              clear h1 h2 hvar
              go_wp2_with fail
              refine HC.out.mono ?_
              rintro e w2 ⟨N, rfl, _, hw2, hb⟩
              have HB := Lib.hid hb
              clear hb hw2
              go_wp2
              go_ret2
              exact ⟨by rw [HN.out]; rfl, HB.out⟩
    · have hl1' : (s.size : Int) ≤ 1 := by omega
      have HL : Hid (¬ (1 < s.data.toList.length ∧ s.data.toList.head? = some 48)) := Lib.hid (by
        rw [← Lib.size_eq]
        rintro ⟨h, _⟩
        exact hl1 h)
      clear hhead
      go_enter Tryz.func104, Tryz.ntmps104
      go_wp2
      go_loopw [4, 21] (fun _ i wr => ∃ k : Nat, k ≤ s.size ∧ i = .int .i64 k ∧ Hid (∀ j (hj : j < s.size), j < k → digB s[j] = true) ∧ w = wr) (fun _ i _ => s.size - (intOf i).toNat)
      case atStart => exact ⟨0, Nat.zero_le _, rfl, Lib.hid fun j _ hj => absurd hj (Nat.not_lt_zero _), rfl⟩
      case round =>
        obtain ⟨k, hk, rfl, hgood, rfl⟩ := hrel
        by_cases hlt : k < s.size
        · cases hd : digB s[k]
          · have HN := Lib.hid (numT_none (numV_bad (not_dig s k hlt hd)))
            have hd2 : ((s[k].toNat : Nat) : Int) < 48 ∨ (57 : Int) < ((s[k].toNat : Nat) : Int) := by
              have h3 := not_congr (digB_iff s[k])
              rw [hd] at h3
              simp at h3
              omega
            clear hd
            rcases hd2 with hd2 | hd2
            · go_wp2
              go_ret2
              exact ⟨by rw [HN.out]; rfl, Below.refl _ _⟩
            · have hd3 : ¬ ((s[k].toNat : Nat) : Int) < 48 := by omega
              go_wp2
              go_ret2
              exact ⟨by rw [HN.out]; rfl, Below.refl _ _⟩
          · have hd1 := (digB_iff s[k]).1 hd
            have hd2 : (48 : Int) ≤ ((s[k].toNat : Nat) : Int) := by omega
            have hd3 : ((s[k].toNat : Nat) : Int) ≤ 57 := by omega
            have HG : Hid (∀ j (hj : j < s.size), j < k + 1 → digB s[j] = true) := Lib.hid fun j hj hjk => by
              by_cases e : j = k
              · subst e; exact hd
              · exact hgood.out j hj (by omega)
            clear hd hd1
            go_wp2
            go_roundw
            case rel => exact ⟨k + 1, by omega, by go_num, HG, trivial⟩
            case measure => simp [intOf]; omega
        · have hall := all_dig s (fun j hj => hgood.out j hj (by omega))
          have hnn : s.data.toList ≠ [] := by
            intro e
            have h9 : s.size = 0 := by rw [Lib.size_eq, e]; rfl
            omega
          have HN := Lib.hid (numT_some (numV_good hnn HL.out hall))
          obtain ⟨v, HV⟩ : ∃ v, Hid (min (decV s.data.toList : Int) 9223372036854775807 = v) := ⟨_, Lib.hid rfl⟩
          rw [HV.out] at HN
          have HAt := atoi_digits hnn hall
          rw [HV.out] at HAt
          clear hall hnn
          rcases HAt with h1 | ⟨h1, h2⟩
          · have HC := Lib.hid (Tryz.strconv_Atoi_ok s (by omega) v h1 w)
            clear h1
            go_wp2_with fail
            refine HC.out.mono ?_
            rintro e w2 ⟨rfl, hw2⟩
            have hb : Below w.heap.size w w2 := by
              rcases hw2 with rfl | ⟨t, rfl⟩
              · exact Below.refl _ _
              · exact Lib.bytesWorld_below _ _ _
            have HB := Lib.hid hb
            clear hb hw2
            go_wp2
            go_ret2
            exact ⟨by rw [HN.out]; rfl, HB.out⟩
          · obtain ⟨tp, p, hvar⟩ := HE.out.range
            have HC := Tryz.strconv_Atoi_range_var s hs h1 tp p w hvar
            rw [h2] at HC
            have HC := Lib.hid HC
            clear h1 h2 hvar
            go_wp2_with fail
            refine HC.out.mono ?_
            rintro e w2 ⟨N, rfl, _, hw2, hb⟩
            have HB := Lib.hid hb
            clear hb hw2
            go_wp2
            go_ret2
            exact ⟨by rw [HN.out]; rfl, HB.out⟩
end Go.Proofs.YtlnncklanabbdaaGreatDoor
