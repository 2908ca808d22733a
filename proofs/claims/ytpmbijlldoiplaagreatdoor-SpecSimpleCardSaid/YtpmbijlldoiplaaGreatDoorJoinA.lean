/- Texts joined: Numb, Split2, PActs, PState, Acc, Obj, PText, SParse, Offer, Line, SpStr, SpVal, SpLine. -/
import Derived.Test.YtpmbijlldoiplaaGreatDoorStrPl
import Derived.WalkSpells
import Derived.Test.YtpmbijlldoiplaaGreatDoorCopy
import Derived.Lib.SlSplitV
import Derived.Deep.RegionHeld3
import Derived.Lib.QuietBelow
import Derived.Test.YtpmbijlldoiplaaGreatDoorSpecPl
import Derived.Test.YtpmbijlldoiplaaGreatDoorSatPl
import Derived.Test.YtpmbijlldoiplaaGreatDoorStr
import Derived.Test.YtpmbijlldoiplaaGreatDoorSOwn
/- parseNumber; the reference's Number. -/
namespace Go.Proofs.YtpmbijlldoiplaaGreatDoor
open Go.RowKit Pl

def numT (l : List UInt8) : Value := match numV l with | some x => .tuple #[.int .i64 x, .bool true] | none => .tuple #[.int .i64 0, .bool false]
theorem numT_none {l : List UInt8} (h : numV l = none) : numT l = .tuple #[.int .i64 0, .bool false] := by unfold numT; rw [h]
theorem numT_some {l : List UInt8} {x : Int} (h : numV l = some x) : numT l = .tuple #[.int .i64 x, .bool true] := by unfold numT; rw [h]
theorem byte_at (s : ByteArray) (k : Nat) (h : k < s.size) : s.data.toList[k]? = some s[k] := by
  rw [Array.getElem?_toList]; exact Array.getElem?_eq_getElem h
theorem all_dig (s : ByteArray) (h : ∀ k (hk : k < s.size), digB s[k] = true) : s.data.toList.all digB = true := by
  rw [List.all_eq_true]
  intro c hc
  obtain ⟨k, hk, rfl⟩ := List.getElem_of_mem hc
  have := h k (by rw [Lib.size_eq]; exact hk)
  have e : s.data.toList[k] = s[k]'(by rw [Lib.size_eq]; exact hk) := by
    have h1 := byte_at s k (by rw [Lib.size_eq]; exact hk)
    rw [List.getElem?_eq_getElem hk] at h1
    exact Option.some.inj h1
  rw [e]; exact this
theorem not_dig (s : ByteArray) (k : Nat) (hk : k < s.size) (h : digB s[k] = false) : s.data.toList.all digB = false := by
  rw [List.all_eq_false]
  refine ⟨s[k], ?_, by rw [h]; decide⟩
  have h1 := byte_at s k hk
  exact List.mem_of_getElem? h1

set_option maxRecDepth 100000 in
set_option maxHeartbeats 2000000 in
theorem parseNumber_any (s : ByteArray) (hs : s.size ≤ 281474976710656) (w : World) (E : Env w) :
    Calls Tryz.prog 134 #[.string s] w fun e w' => e = .returned (numT s.data.toList) ∧ Below w.heap.size w w' := by
  have HE := Lib.hid E
  clear E
  by_cases h0 : s.size = 0
  · have e : s = ⟨#[]⟩ := by
      apply ByteArray.ext
      exact Array.eq_empty_of_size_eq_zero h0
    subst e
    have HN : Hid (numT (⟨#[]⟩ : ByteArray).data.toList = .tuple #[.int .i64 0, .bool false]) := Lib.hid (numT_none rfl)
    clear h0
    go_enter Tryz.func134, Tryz.ntmps134
    go_wp2
    go_ret2
    exact ⟨by rw [HN.out]; rfl, Below.refl _ _⟩
  · have hp : 0 < s.size := by omega
    have hne : s.toList.isEmpty = false := by
      rw [ByteArray.toList_eq, List.isEmpty_eq_false_iff]
      intro e
      have h9 : s.size = 0 := by rw [Lib.size_eq, e]; rfl
      omega
    have hne2 : ¬ s.toList = [] := by
      intro e
      rw [e] at hne
      cases hne
    clear h0
    have hhead : s.data.toList.head? = some s[0] := by
      rw [← byte_at s 0 hp]; exact List.head?_eq_getElem? ..
    by_cases hl1 : 1 < s.size
    · have hl1' : (1 : Int) < s.size := by omega
      by_cases hl2 : s[0].toNat = 48
      · have h48 : (((s[0].toNat : Nat) : Int) == 48) = true := by rw [beq_iff_eq]; omega
        have HN := Lib.hid (numT_none (numV_lead (l := s.data.toList) (by rw [← Lib.size_eq]; exact hl1) (by rw [hhead]; congr 1; exact UInt8.toNat_inj.1 hl2)))
        clear hl2 hhead
        go_enter Tryz.func134, Tryz.ntmps134
        go_wp2
        go_ret2
        exact ⟨by rw [HN.out]; rfl, Below.refl _ _⟩
      · have h48 : (((s[0].toNat : Nat) : Int) == 48) = false := by rw [beq_eq_false_iff_ne]; omega
        have HL : Hid (¬ (1 < s.data.toList.length ∧ s.data.toList.head? = some 48)) := Lib.hid (by
          rw [hhead]
          rintro ⟨_, e⟩
          apply hl2
          have := Option.some.inj e
          rw [this]; rfl)
        clear hl2 hhead
        go_enter Tryz.func134, Tryz.ntmps134
        go_wp2
        go_loopw [4, 21] (fun _ i wr => ∃ k : Nat, k ≤ s.size ∧ i = .int .i64 k ∧ Hid (∀ j (hj : j < s.size), j < k → digB s[j] = true) ∧ w = wr) (fun _ i _ => s.size - (intOf i).toNat)
        case atStart => exact ⟨0, Nat.zero_le _, rfl, Lib.hid fun j _ hj => absurd hj (Nat.not_lt_zero _), rfl⟩
        case round =>
          obtain ⟨k, hk, rfl, hgood, rfl⟩ := hrel
          by_cases hlt : k < s.size
          · cases hd : digB s[k]
            · have HN := Lib.hid (numT_none (numV_bad (not_dig s k hlt hd)))
              have hd2 : ((s[k].toNat : Nat) : Int) < 48 ∨ (57 : Int) < ((s[k].toNat : Nat) : Int) := by
                have h3 := not_congr (digB_iff s[k])
                rw [hd] at h3
                simp at h3
                omega
              clear hd
              rcases hd2 with hd2 | hd2
              · go_wp2
                go_ret2
                exact ⟨by rw [HN.out]; rfl, Below.refl _ _⟩
              · have hd3 : ¬ ((s[k].toNat : Nat) : Int) < 48 := by omega
                go_wp2
                go_ret2
                exact ⟨by rw [HN.out]; rfl, Below.refl _ _⟩
            · have hd1 := (digB_iff s[k]).1 hd
              have hd2 : (48 : Int) ≤ ((s[k].toNat : Nat) : Int) := by omega
              have hd3 : ((s[k].toNat : Nat) : Int) ≤ 57 := by omega
              have HG : Hid (∀ j (hj : j < s.size), j < k + 1 → digB s[j] = true) := Lib.hid fun j hj hjk => by
                by_cases e : j = k
                · subst e; exact hd
                · exact hgood.out j hj (by omega)
              clear hd hd1
              go_wp2
              go_roundw
              case rel => exact ⟨k + 1, by omega, by go_num, HG, trivial⟩
              case measure => simp [intOf]; omega
          · have hall := all_dig s (fun j hj => hgood.out j hj (by omega))
            have hnn : s.data.toList ≠ [] := by
              intro e
              have h9 : s.size = 0 := by rw [Lib.size_eq, e]; rfl
              omega
            have HN := Lib.hid (numT_some (numV_good hnn HL.out hall))
            obtain ⟨v, HV⟩ : ∃ v, Hid (min (decV s.data.toList : Int) 9223372036854775807 = v) := ⟨_, Lib.hid rfl⟩
            rw [HV.out] at HN
            have HAt := atoi_digits hnn hall
            rw [HV.out] at HAt
            clear hall hnn
            rcases HAt with h1 | ⟨h1, h2⟩
            · have HC := Lib.hid (Tryz.strconv_Atoi_ok s (by omega) v h1 w)
              clear h1
              go_wp2_with fail
              refine HC.out.mono ?_
              rintro e w2 ⟨rfl, hw2⟩
              have hb : Below w.heap.size w w2 := by
                rcases hw2 with rfl | ⟨t, rfl⟩
                · exact Below.refl _ _
                · exact Lib.bytesWorld_below _ _ _
              have HB := Lib.hid hb
              clear hb hw2
              go_wp2
              go_ret2
              exact ⟨by rw [HN.out]; rfl, HB.out⟩
            · obtain ⟨tp, p, hvar⟩ := HE.out.range
              have HC := Tryz.strconv_Atoi_range_var s hs h1 tp p w hvar
              rw [h2] at HC
              have HC := Lib.hid HC
              clear h1 h2 hvar
              go_wp2_with fail
              refine HC.out.mono ?_
              rintro e w2 ⟨N, rfl, _, hw2, hb⟩
              have HB := Lib.hid hb
              clear hb hw2
              go_wp2
              go_ret2
              exact ⟨by rw [HN.out]; rfl, HB.out⟩
    · have hl1' : (s.size : Int) ≤ 1 := by omega
      have HL : Hid (¬ (1 < s.data.toList.length ∧ s.data.toList.head? = some 48)) := Lib.hid (by
        rw [← Lib.size_eq]
        rintro ⟨h, _⟩
        exact hl1 h)
      clear hhead
      go_enter Tryz.func134, Tryz.ntmps134
      go_wp2
      go_loopw [4, 21] (fun _ i wr => ∃ k : Nat, k ≤ s.size ∧ i = .int .i64 k ∧ Hid (∀ j (hj : j < s.size), j < k → digB s[j] = true) ∧ w = wr) (fun _ i _ => s.size - (intOf i).toNat)
      case atStart => exact ⟨0, Nat.zero_le _, rfl, Lib.hid fun j _ hj => absurd hj (Nat.not_lt_zero _), rfl⟩
      case round =>
        obtain ⟨k, hk, rfl, hgood, rfl⟩ := hrel
        by_cases hlt : k < s.size
        · cases hd : digB s[k]
          · have HN := Lib.hid (numT_none (numV_bad (not_dig s k hlt hd)))
            have hd2 : ((s[k].toNat : Nat) : Int) < 48 ∨ (57 : Int) < ((s[k].toNat : Nat) : Int) := by
              have h3 := not_congr (digB_iff s[k])
              rw [hd] at h3
              simp at h3
              omega
            clear hd
            rcases hd2 with hd2 | hd2
            · go_wp2
              go_ret2
              exact ⟨by rw [HN.out]; rfl, Below.refl _ _⟩
            · have hd3 : ¬ ((s[k].toNat : Nat) : Int) < 48 := by omega
              go_wp2
              go_ret2
              exact ⟨by rw [HN.out]; rfl, Below.refl _ _⟩
          · have hd1 := (digB_iff s[k]).1 hd
            have hd2 : (48 : Int) ≤ ((s[k].toNat : Nat) : Int) := by omega
            have hd3 : ((s[k].toNat : Nat) : Int) ≤ 57 := by omega
            have HG : Hid (∀ j (hj : j < s.size), j < k + 1 → digB s[j] = true) := Lib.hid fun j hj hjk => by
              by_cases e : j = k
              · subst e; exact hd
              · exact hgood.out j hj (by omega)
            clear hd hd1
            go_wp2
            go_roundw
            case rel => exact ⟨k + 1, by omega, by go_num, HG, trivial⟩
            case measure => simp [intOf]; omega
        · have hall := all_dig s (fun j hj => hgood.out j hj (by omega))
          have hnn : s.data.toList ≠ [] := by
            intro e
            have h9 : s.size = 0 := by rw [Lib.size_eq, e]; rfl
            omega
          have HN := Lib.hid (numT_some (numV_good hnn HL.out hall))
          obtain ⟨v, HV⟩ : ∃ v, Hid (min (decV s.data.toList : Int) 9223372036854775807 = v) := ⟨_, Lib.hid rfl⟩
          rw [HV.out] at HN
          have HAt := atoi_digits hnn hall
          rw [HV.out] at HAt
          clear hall hnn
          rcases HAt with h1 | ⟨h1, h2⟩
          · have HC := Lib.hid (Tryz.strconv_Atoi_ok s (by omega) v h1 w)
            clear h1
            go_wp2_with fail
            refine HC.out.mono ?_
            rintro e w2 ⟨rfl, hw2⟩
            have hb : Below w.heap.size w w2 := by
              rcases hw2 with rfl | ⟨t, rfl⟩
              · exact Below.refl _ _
              · exact Lib.bytesWorld_below _ _ _
            have HB := Lib.hid hb
            clear hb hw2
            go_wp2
            go_ret2
            exact ⟨by rw [HN.out]; rfl, HB.out⟩
          · obtain ⟨tp, p, hvar⟩ := HE.out.range
            have HC := Tryz.strconv_Atoi_range_var s hs h1 tp p w hvar
            rw [h2] at HC
            have HC := Lib.hid HC
            clear h1 h2 hvar
            go_wp2_with fail
            refine HC.out.mono ?_
            rintro e w2 ⟨N, rfl, _, hw2, hb⟩
            have HB := Lib.hid hb
            clear hb hw2
            go_wp2
            go_ret2
            exact ⟨by rw [HN.out]; rfl, HB.out⟩
end Go.Proofs.YtpmbijlldoiplaaGreatDoor
/- strings.Split at one byte, strings.TrimSuffix, strings.Clone as the program calls them; parseActions. -/
namespace Go.Proofs.YtpmbijlldoiplaaGreatDoor
open Go.RowKit Pl

theorem sp_len (c : UInt8) : ∀ (l : List UInt8), ∀ x ∈ sp c l, x.length ≤ l.length
  | [], x, h => by simp [sp] at h; simp [h]
  | y :: r, x, h => by
    have ih := sp_len c r
    by_cases hc : y = c
    · subst hc
      rw [sp_at] at h
      rcases List.mem_cons.1 h with rfl | h
      · simp
      · have := ih x h; simp; omega
    · obtain ⟨p, ps, h1, h2⟩ := sp_other hc r
      rw [h2] at h
      rw [h1] at ih
      rcases List.mem_cons.1 h with rfl | h
      · have := ih p (by simp); simp; omega
      · have := ih x (by simp [h]); simp; omega
/-- the parts as strings -/
def spB (c : UInt8) (s : ByteArray) : List ByteArray := (sp c s.data.toList).map mk
theorem split_eq (c : UInt8) (s : ByteArray) : Lib.splitB (⟨#[c]⟩ : ByteArray) 0 (Lib.countB s ⟨#[c]⟩) s = spB c s := by
  have h := Lib.splitB_data (⟨#[c]⟩ : ByteArray) 0 (Lib.countB s ⟨#[c]⟩) s
  have h2 : Lib.splitK (⟨#[c]⟩ : ByteArray).data.toList 0 (Lib.countB s ⟨#[c]⟩) s.data.toList = sp c s.data.toList := split_sp c s.data.toList.length s.data.toList (Nat.le_refl _)
  rw [h2] at h
  unfold spB
  rw [← h, List.map_map]
  have : (mk ∘ fun x : ByteArray => x.data.toList) = id := by funext x; exact mk_of x
  rw [this, List.map_id]
theorem spB_at (c : UInt8) (s : ByteArray) (k : Nat) (h : k < (spB c s).length) : at_ (spB c s) k ∈ spB c s := by
  unfold at_
  rw [List.getD_eq_getElem?_getD, List.getElem?_eq_getElem h]
  exact List.getElem_mem h
theorem spB_size {c : UInt8} {s x : ByteArray} (h : x ∈ spB c s) : x.size ≤ s.size := by
  obtain ⟨l, hl, rfl⟩ := List.mem_map.1 h
  rw [mk_size', Lib.size_eq s]
  exact sp_len c _ l hl
theorem spB_pos (c : UInt8) (s : ByteArray) : 0 < (spB c s).length := by
  unfold spB
  rw [List.length_map]
  exact List.length_pos_iff.2 (sp_ne c _)
theorem sp_count (c : UInt8) : ∀ (l : List UInt8), (sp c l).length ≤ l.length + 1
  | [] => by simp [sp]
  | y :: r => by
    have ih := sp_count c r
    by_cases hc : y = c
    · subst hc; rw [sp_at]; simp; omega
    · obtain ⟨p, ps, h1, h2⟩ := sp_other hc r
      rw [h2]; rw [h1] at ih; simp at ih ⊢; omega
theorem spB_count (c : UInt8) (s : ByteArray) : (spB c s).length ≤ s.size + 1 := by
  unfold spB
  rw [List.length_map, Lib.size_eq s]
  exact sp_count c _
theorem strs_new (w : World) (ss : List ByteArray) (hb : ss.length ≤ 9223372036854775807) (hs : ∀ x ∈ ss, x.size ≤ 9223372036854775807) :
    StrArg (w.alloc (.cells (ss.map Value.string).toArray 9)) (some ⟨w.heap.size, 0, none⟩) ss.length ss.length ss := by
  refine ⟨(fun h => by cases h), rfl, Nat.le_refl _, hb, fun k hk => ?_, fun k hk => ⟨w.heap.size, 0, rfl, ?_⟩⟩
  · unfold at_
    rw [List.getD_eq_getElem?_getD, List.getElem?_eq_getElem hk]
    exact hs _ (List.getElem_mem hk)
  · rw [(Whole.new w 9 (ss.map Value.string).toArray).cell]
    simp [List.getD, hk]
theorem split_any (c : UInt8) (s : ByteArray) (hs : s.size ≤ 1000000) (w : World) (E : Env w) :
    Calls Tryz.prog 117 #[.string s, .string ⟨#[c]⟩] w fun e w' => e = .returned (.slice (some ⟨w.heap.size, 0, none⟩) (spB c s).length (spB c s).length) ∧ w.alloc (.cells ((spB c s).map Value.string).toArray 9) = w' := by
  obtain ⟨m, hm⟩ := E.most
  refine (Tryz.strings_Split s ⟨#[c]⟩ m w (by omega) hm (Nat.le_refl 1)).mono fun e w' h => ?_
  obtain ⟨rfl, rfl⟩ := h
  have hlen := Lib.splitB_all (⟨#[c]⟩ : ByteArray) (Nat.le_refl 1) 0 _ s rfl
  rw [split_eq] at hlen ⊢
  exact ⟨by rw [hlen], rfl⟩
theorem trim_any (s : ByteArray) (hs : s.size ≤ 1000000) (w : World) :
    Calls Tryz.prog 118 #[.string s, .string ⟨#[10]⟩] w fun e w' => e = .returned (.string (mk (cut1 s.data.toList))) ∧ w = w' :=
  (Tryz.strings_TrimSuffix s ⟨#[10]⟩ w (by omega)).mono fun e w' h => ⟨h.1, h.2.symm⟩
theorem clone_any (s : ByteArray) (hs : s.size ≤ 1000000) (w : World) :
    Calls Tryz.prog 119 #[.string s] w fun e w' => e = .returned (.string s) ∧ Below w.heap.size w w' := by
  have HC := Lib.hid (Tryz.stringslite_Clone s w (by omega))
  go_enter Tryz.func119, Tryz.ntmps119
  go_wp2_with fail
  refine HC.out.mono ?_
  rintro e w' ⟨rfl, hb⟩
  go_wp2
  go_ret
  exact ⟨rfl, hb⟩
end Go.Proofs.YtpmbijlldoiplaaGreatDoor
/- A part of a list of strings; the first line of an object. -/
namespace Go.Proofs.YtpmbijlldoiplaaGreatDoor
open Go.RowKit Pl

/-- 'words[k:]' of strings -/
theorem cut_run (a : Option Addr) (n c k : Nat) (h : k ≤ n) (w' : World) : (Instr.slice 22 (.slice a n c) (some (.int .i64 k)) none none).run Tryz.prog w' = .ok (.slice (if c = k then a else a.map fun x => x.add k) (n - k) (c - k)) w' := by
  have h1 : (0 : Int) ≤ k := by omega
  have h2 : (k : Int) ≤ n := by omega
  go_simp
theorem cut_from {w : World} {a : Option Addr} {n c : Nat} {ss : List ByteArray} (A : StrArg w a n c ss) (k : Nat) (h : k ≤ n) :
    ∃ a', (∀ w', (Instr.slice 22 (.slice a n c) (some (.int .i64 k)) none none).run Tryz.prog w' = .ok (.slice a' (n - k) (c - k)) w') ∧ StrArg w a' (n - k) (c - k) (ss.drop k) ∧ ∀ ad, a' = some ad → ∃ ad0, a = some ad0 ∧ ad.block = ad0.block := by
  refine ⟨_, cut_run a n c k h, ⟨?_, by rw [List.length_drop, A.len], by have := A.cap; omega, by have := A.big; omega, fun j hj => ?_, fun j hj => ?_⟩, ?_⟩
  · intro e
    by_cases hc : c = k
    · omega
    · rw [if_neg hc] at e
      cases a with
      | none => have := A.nil rfl; omega
      | some x => cases e
  · have e : at_ (ss.drop k) j = at_ ss (k + j) := by simp [at_, List.getD]
    rw [e]
    exact A.sz _ (by omega)
  · rw [List.length_drop] at hj
    obtain ⟨b, off, rfl, hcell⟩ := A.cells (k + j) (by omega)
    have e : (ss.drop k).getD j ByteArray.empty = ss.getD (k + j) ByteArray.empty := by simp [List.getD]
    rw [e, if_neg (by have := A.cap; have := A.len; omega)]
    exact ⟨b, off + k, by simp [add_plainly], by rw [Nat.add_assoc]; exact hcell⟩
  · intro ad e
    by_cases hc : c = k
    · rw [if_pos hc] at e; exact ⟨ad, e, rfl⟩
    · rw [if_neg hc] at e
      cases a with
      | none => cases e
      | some x =>
        rw [Option.map_some, Option.some.injEq] at e
        refine ⟨x, rfl, ?_⟩
        rw [← e]
        unfold Addr.add
        split <;> rfl
theorem headO_eq (s : ByteArray) : headO s.data.toList = if at_ (spB 32 s) 0 = mk bSystem ∧ actsB ((spB 32 s).drop 1) = true then some ((spB 32 s).drop 1) else none := by
  unfold headO spB
  cases e : sp 32 s.data.toList with
  | nil => exact absurd e (sp_ne _ _)
  | cons h r =>
    have e1 : at_ ((h :: r).map mk) 0 = mk h := rfl
    have e2 : ((h :: r).map mk).drop 1 = r.map mk := rfl
    rw [e1, e2]
    have e3 : (mk h = mk bSystem) ↔ h = bSystem := ⟨fun q => by have := congrArg (fun x : ByteArray => x.data.toList) q; simpa [mk] using this, fun q => by rw [q]⟩
    simp only [e3]
theorem sys_eq (x : ByteArray) : (x.toList == [115, 121, 115, 116, 101, 109]) = decide (x = mk bSystem) := by
  rw [Bool.eq_iff_iff, beq_iff_eq, decide_eq_true_iff, ByteArray.toList_eq]
  constructor
  · intro h
    rw [← mk_of x, h]; rfl
  · rintro rfl
    rfl

end Go.Proofs.YtpmbijlldoiplaaGreatDoor
/- parseState. -/
namespace Go.Proofs.YtpmbijlldoiplaaGreatDoor
open Go.RowKit Pl

theorem edgesO_odd (acts : List ByteArray) : ∀ (x : Nat) (r : List (List UInt8)), r.length = 2 * x + 1 → edgesO acts r = none
  | 0, r, h => by
    match r, h with
    | [a], _ => rfl
  | x + 1, r, h => by
    match r, h with
    | a :: n :: r', h =>
      have ih := edgesO_odd acts x r' (by simp at h; omega)
      unfold edgesO
      rw [ih]
      split
      · rfl
      · split <;> rfl
theorem edgesO_bad {acts : List ByteArray} {a n : List UInt8} {r : List (List UInt8)} (h : Lib.idxOfS acts (mk a) < 0 ∨ numV n = none) : edgesO acts (a :: n :: r) = none := by
  unfold edgesO
  rcases h with h | h
  · rw [if_pos h]
  · split
    · rfl
    · rw [h]
theorem edgesO_good {acts : List ByteArray} {a n : List UInt8} {r : List (List UInt8)} {t : Int} (h : ¬ Lib.idxOfS acts (mk a) < 0) (h2 : numV n = some t) : edgesO acts (a :: n :: r) = (edgesO acts r).map fun l => (Lib.idxOfS acts (mk a), t) :: l := by
  rw [edgesO, if_neg h, h2]
theorem rowO_eq (acts : List ByteArray) (i : Nat) (s : ByteArray) : ∃ r : List (List UInt8), (spB 32 s).drop 1 = r.map mk ∧ (spB 32 s).length = r.length + 1 ∧ rowO acts i s.data.toList = if at_ (spB 32 s) 0 = mk (Lib.decDigits i ++ [58]) then edgesO acts r else none := by
  unfold rowO spB
  cases e : sp 32 s.data.toList with
  | nil => exact absurd e (sp_ne _ _)
  | cons h r =>
    refine ⟨r, rfl, by simp, ?_⟩
    have e1 : at_ ((h :: r).map mk) 0 = mk h := rfl
    rw [e1]
    have e3 : (mk h = mk (Lib.decDigits i ++ [58])) ↔ h = Lib.decDigits i ++ [58] := ⟨fun q => by have := congrArg (fun x : ByteArray => x.data.toList) q; simpa [mk] using this, fun q => by rw [q]⟩
    simp only [e3]
theorem bytes_eq (x y : ByteArray) : (x.toList == y.toList) = decide (x = y) := by
  rw [Bool.eq_iff_iff, beq_iff_eq, decide_eq_true_iff, ByteArray.toList_eq, ByteArray.toList_eq]
  exact ⟨fun h => by rw [← mk_of x, h, mk_of], fun h => by rw [h]⟩
theorem two_src (W : World) (u v : Value) (t : TypeId) : SrcAt (W.alloc (.cells #[u, v] t)) (some ⟨W.heap.size, 0, none⟩) [u, v] := fun j x hx => by
  have hj : j < 2 := by
    have := (List.getElem?_eq_some_iff.1 hx).1
    simpa using this
  refine ⟨_, rfl, ?_⟩
  rw [add_plainly, (Whole.new W t #[u, v]).cell, ← hx]
  match j, hj with
  | 0, _ => rfl
  | 1, _ => rfl

theorem own_up' {w w' : World} {base : Nat} {e : TypeId} {size n : Nat} {v : Value} {xs : List Value} (h : w.ownsRow base e size v n xs) (hb : Below w.heap.size w w') : w'.ownsRow base e size v n xs :=
  h.kept (below_grown' hb) (by cases v.ownBlock <;> simp)
theorem at_in (ws : List ByteArray) (k : Nat) (h : k < ws.length) : at_ ws k ∈ ws := by
  unfold at_
  rw [List.getD_eq_getElem?_getD, List.getElem?_eq_getElem h]
  exact List.getElem_mem h
theorem findV_no {acts : List ByteArray} {X : ByteArray} (ha : actsB acts = true) (h : Lib.idxOfS acts X < 0) : findV acts X = .tuple #[.int .i64 0, .bool false, .int .i64 0] := by
  unfold findV; rw [ha, if_pos rfl, if_neg (by omega)]
theorem findV_yes {acts : List ByteArray} {X : ByteArray} (ha : actsB acts = true) (h : 0 ≤ Lib.idxOfS acts X) : findV acts X = .tuple #[.int .i64 (Lib.idxOfS acts X), .bool true, .int .i64 0] := by
  unfold findV; rw [ha, if_pos rfl, if_pos h]
set_option maxRecDepth 100000 in
set_option maxHeartbeats 8000000 in
theorem parseState_any {w : World} {a : Option Addr} {n c : Nat} {acts : List ByteArray} {a2 : Option Addr} {N c2 : Nat} {r : List (List UInt8)} (E : Env w) (A : StrArg w a n c acts) (B : StrArg w a2 N c2 (r.map mk)) (hact : actsB acts = true) (hr : r.length ≤ 1000000) (hsz : ∀ x ∈ r, x.length ≤ 1000000) :
    Calls Tryz.prog 98 #[.slice a n c, .slice a2 N c2] w fun e w' => Below w.heap.size w w' ∧
      ((edgesO acts r = none ∧ e = .returned (.tuple #[.slice none 0 0, .bool false])) ∨
        ∃ es v, edgesO acts r = some es ∧ e = .returned (.tuple #[v, .bool true]) ∧ EdgeOwn w' w.heap.size v es ∧ es.length ≤ 1000000) := by
  obtain ⟨i1, hi1, hz10, hz11, hz12⟩ := info_parts infoEdge
  have HE := Lib.hid E
  have HA := Lib.hid A
  have HBs := Lib.hid B
  have HACT := Lib.hid hact
  have HSz := Lib.hid hsz
  have hN2 : N ≤ 1000000 := by have := B.len; rw [List.length_map] at this; omega
  have HR2 : Hid (N = r.length) := Lib.hid (by have := B.len; rwa [List.length_map] at this)
  clear E A B hact hsz hr
  go_enter Tryz.func98, Tryz.ntmps98
  by_cases hev : N % 2 = 1
  · have HN : Hid (edgesO acts r = none) := Lib.hid (edgesO_odd acts ((r.length - 1) / 2) r (by have := HR2.out; omega))
    have hmod : ((N : Int).tmod 2 == 1) = true := by rw [beq_iff_eq, Int.tmod_eq_emod_of_nonneg (by omega)]; omega
    have hmod2 : ((N : Int) % 2 == 1) = true := by rw [beq_iff_eq]; omega
    go_wp2
    go_ret2
    exact ⟨Below.refl _ _, .inl ⟨HN.out, rfl⟩⟩
  · have hmod : ((N : Int).tmod 2 == 1) = false := by rw [beq_eq_false_iff_ne, Int.tmod_eq_emod_of_nonneg (by omega)]; omega
    have hmod2 : ((N : Int) % 2 == 1) = false := by rw [beq_eq_false_iff_ne]; omega
    have hrl : r.length % 2 = 0 := by have := HR2.out; omega
    go_wp2
    go_loopw [6, 7, 8, 9, 10, 11, 12] (fun v k _ _ _ _ _ wr => ∃ (x : Nat) (es : List Edg), k = .int .i64 ((2 * x : Nat) : Int) ∧ 2 * x ≤ N ∧ EdgeOwn wr w.heap.size v es ∧ Hid (es.length = x ∧ edgesO acts r = (edgesO acts (r.drop (2 * x))).map fun q => es ++ q) ∧ Below w.heap.size w wr) (fun _ k _ _ _ _ _ _ => N - (intOf k).toNat)
    case atStart => exact ⟨0, [], by simp, by omega, World.ownsRow_nil _ _ _ _, Lib.hid ⟨rfl, by simp⟩, Below.refl _ _⟩
    case round =>
      obtain ⟨x, es, rfl, hx, hes, hrel2, hb⟩ := hrel
      have HES := Lib.hid hes
      have HB := Lib.hid hb
      have hzr := hb.size
      clear hes hb
      by_cases hlt : 2 * x < N
      · have h2x : 2 * x + 1 < r.length := by have := HR2.out; omega
        obtain ⟨a1, n1, HD2⟩ : ∃ a1 n1, Hid (r.drop (2 * x) = a1 :: n1 :: r.drop (2 * (x + 1)) ∧ r[2 * x]? = some a1 ∧ r[2 * x + 1]? = some n1) := ⟨r[2 * x], r[2 * x + 1], Lib.hid ⟨by
          rw [List.drop_eq_getElem_cons (by omega), List.drop_eq_getElem_cons (by omega)]; rfl, List.getElem?_eq_getElem _, List.getElem?_eq_getElem _⟩⟩
        obtain ⟨X, HX⟩ : ∃ z, Hid (mk a1 = z) := ⟨_, Lib.hid rfl⟩
        obtain ⟨Y, HY⟩ : ∃ z, Hid (mk n1 = z) := ⟨_, Lib.hid rfl⟩
        have HYd : Hid (Y.data.toList = n1) := Lib.hid (by rw [← HY.out, mk_data])
        have hAr := HBs.out.below HB.out
        obtain ⟨bw, ow, rfl, c1⟩ := hAr.cells (2 * x) (by rw [List.length_map]; omega)
        have c2' : wr.cell? ⟨bw, ow + (2 * x + 1), none⟩ = some (.string Y) := by
          obtain ⟨b, off, e, hc⟩ := hAr.cells (2 * x + 1) (by rw [List.length_map]; omega)
          cases e
          rw [hc, List.getD_eq_getElem?_getD, List.getElem?_map, HD2.out.2.2, ← HY.out]; rfl
        rw [List.getD_eq_getElem?_getD, List.getElem?_map, HD2.out.2.1, show ((some a1).map mk).getD ByteArray.empty = mk a1 from rfl, HX.out] at c1
        have HAc := Lib.hid (HA.out.below HB.out)
        have HEr := Lib.hid (HE.out.below HB.out)
        obtain ⟨e0, e1, e2, hEr⟩ := HEr.out.errs
        have HF := Lib.hid (Find_any X hEr HAc.out)
        have hYs : Y.size ≤ 1000000 := by
          rw [← HY.out, mk_size']
          exact HSz.out _ (List.mem_of_getElem? HD2.out.2.2)
        have HPn := parseNumber_any Y (by omega) wr HEr.out
        rw [HYd.out] at HPn
        have hwr1 : IntKind.i64.wrap (((2 * x : Nat) : Int) + 1) = ((2 * x : Nat) : Int) + 1 := IntWalk.i64_in _ (by omega)
        clear hEr hAr
        by_cases hgood : 0 ≤ Lib.idxOfS acts X ∧ ∃ t, numV n1 = some t
        · obtain ⟨hidx, t, hnum⟩ := hgood
          rw [findV_yes HACT.out hidx] at HF
          rw [numT_some hnum] at HPn
          have HPn := Lib.hid HPn
          have HG : Hid ((es ++ [(Lib.idxOfS acts X, t)]).length = x + 1 ∧ edgesO acts r = (edgesO acts (r.drop (2 * (x + 1)))).map fun q => (es ++ [(Lib.idxOfS acts X, t)]) ++ q) := Lib.hid ⟨by rw [List.length_append, hrel2.out.1]; rfl, by
            rw [hrel2.out.2, HD2.out.1, edgesO_good (by rw [HX.out]; omega) hnum, HX.out, Option.map_map]
            congr 1
            funext q
            simp⟩
          obtain ⟨Z, HZ⟩ : ∃ z, Hid (Lib.idxOfS acts X = z) := ⟨_, Lib.hid rfl⟩
          rw [HZ.out] at HG HF
          obtain ⟨va, vc, rfl⟩ := own_slice' HES.out
          have HOW : Hid (wr.ownsRow w.heap.size 85 2 (.slice va es.length vc) es.length (ecells es)) := Lib.hid HES.out
          clear hidx hnum
          go_wp2_with fail
          refine HF.out.mono ?_
          rintro e w' ⟨rfl, rfl⟩
          go_wp2_with fail
          refine HPn.out.mono ?_
          rintro e w2 ⟨rfl, hb2⟩
          have HOW2 : Hid (∀ o, (w2.alloc o).ownsRow w.heap.size 85 2 (.slice va es.length vc) es.length (ecells es)) := Lib.hid fun o => (own_up' HOW.out hb2).alloc o
          have Hb2 := Lib.hid hb2
          have hz2 := hb2.size
          have hesl : es.length ≤ 1000000 := by have := hrel2.out.1; omega
          clear hb2
          go_wp2_with (at_builtin; (refine wpList_append_sz rfl (.tmp 48) (.tmp 52) 76 rfl w.heap.size 85 i1 (.agg #[.int .i64 0, .int .i64 0]) 2 16 Tryz.underlying76 hi1 hz10 hz11 hz12 rfl (by decide) (.slice va es.length vc) rfl es.length (ecells es) (HOW2.out _) (some ⟨w2.heap.size, 0, none⟩) 1 1 rfl [.int .i64 Z, .int .i64 t] (fun h => by cases h) rfl (two_src _ _ _ _) (by simp [Value.oneCell']) (by unfold maxLen; omega) (by omega) (by simp; omega) ?_); intro v4 w4 hv4 hg4 hat4; refine Hid.out ?_)
          refine Lib.hid ?_
          have hE4 : EdgeOwn w4 w.heap.size v4 (es ++ [(Z, t)]) := by
            unfold EdgeOwn
            rw [List.length_append, ecells_app]
            exact hv4
          have hb4 : Below w.heap.size w w4 := (((HB.out.trans (Hb2.out.mono hzr)).alloc (by omega) _)).grown hg4 (by simp; omega) (own_ge (HOW2.out (.cells #[.int .i64 Z, .int .i64 t] 85)))
          have HE4 := Lib.hid hE4
          have HB4 := Lib.hid hb4
          clear hv4 hg4 hat4 hE4 hb4
          go_wp2
          go_roundw
          case rel => exact ⟨x + 1, es ++ [(Z, t)], by go_num, by omega, HE4.out, HG, HB4.out⟩
          case measure => simp [intOf]; omega
        · have HN : Hid (edgesO acts r = none) := Lib.hid (by
            rw [hrel2.out.2, HD2.out.1, edgesO_bad]
            · rfl
            · by_cases hidx : Lib.idxOfS acts X < 0
              · exact .inl (by rw [HX.out]; exact hidx)
              · right
                cases hnv : numV n1 with
                | none => rfl
                | some t => exact absurd ⟨by omega, t, hnv⟩ hgood)
          cases hnv : numV n1 with
          | none =>
            rw [numT_none hnv] at HPn
            have HPn := Lib.hid HPn
            by_cases hidx : Lib.idxOfS acts X < 0
            · rw [findV_no HACT.out hidx] at HF
              clear hidx hgood hnv
              go_wp2_with fail
              refine HF.out.mono ?_
              rintro e w' ⟨rfl, rfl⟩
              go_wp2_with fail
              refine HPn.out.mono ?_
              rintro e w2 ⟨rfl, hb2⟩
              go_wp2
              go_ret2
              exact ⟨HB.out.trans (hb2.mono hzr), .inl ⟨HN.out, rfl⟩⟩
            · rw [findV_yes HACT.out (by omega)] at HF
              obtain ⟨Z, HZ⟩ : ∃ z, Hid (Lib.idxOfS acts X = z) := ⟨_, Lib.hid rfl⟩
              rw [HZ.out] at HF
              clear hidx hgood hnv
              go_wp2_with fail
              refine HF.out.mono ?_
              rintro e w' ⟨rfl, rfl⟩
              go_wp2_with fail
              refine HPn.out.mono ?_
              rintro e w2 ⟨rfl, hb2⟩
              go_wp2
              go_ret2
              exact ⟨HB.out.trans (hb2.mono hzr), .inl ⟨HN.out, rfl⟩⟩
          | some t =>
            have hidx : Lib.idxOfS acts X < 0 := by
              rcases Int.lt_or_le (Lib.idxOfS acts X) 0 with h | h
              · exact h
              · exact absurd ⟨h, t, hnv⟩ hgood
            rw [findV_no HACT.out hidx] at HF
            rw [numT_some hnv] at HPn
            have HPn := Lib.hid HPn
            clear hidx hgood hnv
            go_wp2_with fail
            refine HF.out.mono ?_
            rintro e w' ⟨rfl, rfl⟩
            go_wp2_with fail
            refine HPn.out.mono ?_
            rintro e w2 ⟨rfl, hb2⟩
            go_wp2
            go_ret2
            exact ⟨HB.out.trans (hb2.mono hzr), .inl ⟨HN.out, rfl⟩⟩
      · have HN : Hid (edgesO acts r = some es) := Lib.hid (by
          rw [hrel2.out.2, List.drop_of_length_le (by have := HR2.out; omega)]
          simp [edgesO])
        obtain ⟨va, vc, rfl⟩ := own_slice' HES.out
        go_wp2
        go_ret2
        exact ⟨HB.out, .inr ⟨es, _, HN.out, rfl, HES.out, by have := hrel2.out.1; omega⟩⟩
end Go.Proofs.YtpmbijlldoiplaaGreatDoor
/- A system that a call puts together in a variable of its own, state by state. -/
namespace Go.Proofs.YtpmbijlldoiplaaGreatDoor
open Go.RowKit Pl

/-- the variable at block w2.heap.size holds va and the lists of ss so far; what lay below stands -/
structure SysAcc (w2 : World) (va vs : Value) (ss : List (List Edg)) (wr : World) : Prop where
  out : Whole wr w2.heap.size 25 #[va, vs]
  rows : RowsOwn wr w2.heap.size vs ss
  mid : Below w2.heap.size w2 wr
theorem SysAcc.drew {w2 wr : World} {va vs : Value} {ss : List (List Edg)} (h : SysAcc w2 va vs ss wr) : SysAcc w2 va vs ss wr.drew := ⟨h.out, h.rows, h.mid.drew⟩
theorem SysAcc.below {w2 wr wA : World} {va vs : Value} {ss : List (List Edg)} (h : SysAcc w2 va vs ss wr) (hb : Below wr.heap.size wr wA) : SysAcc w2 va vs ss wA :=
  ⟨h.out.below hb h.out.lt, h.rows.below hb, h.mid.trans (hb.mono h.mid.size)⟩
theorem SysAcc.start (w2 : World) (va : Value) : SysAcc w2 va (.slice none 0 0) [] (w2.alloc (.cells #[va, .slice none 0 0] 25)) :=
  ⟨Whole.new _ _ _, RowsOwn.none _ _, (Below.refl _ w2).alloc (Nat.le_refl _) _⟩
theorem SysAcc.mono_mid {w2 wr : World} {va vs : Value} {ss : List (List Edg)} (h : SysAcc w2 va vs ss wr) {B C : Nat} (h1 : B ≤ w2.heap.size) (h2 : C < B) : Below C w2 wr := h.mid.mono (by omega)
/-- what is known of the variable behind the append -/
theorem SysAcc.grown {w2 wA wB : World} {va vs : Value} {ss : List (List Edg)} (h : SysAcc w2 va vs ss wA) (hg : wA.grownBy wB vs.ownBlock) : Whole wB w2.heap.size 25 #[va, vs] := by
  obtain ⟨rows, r1, r2, r3⟩ := h.rows
  exact h.out.grown hg (own_whole r2 h.out (by decide))
/-- one state more -/
theorem SysAcc.next {w2 wA wB : World} {va vs v1 v2 : Value} {ss : List (List Edg)} {l : List Edg} (h : SysAcc w2 va vs ss wA) (hA : EdgeOwn wA w2.heap.size v1 l) (hg : wA.grownBy wB vs.ownBlock)
    (hB : ∀ rows, wA.ownsRow w2.heap.size 76 1 vs ss.length rows → rows.length = ss.length → wB.ownsRow w2.heap.size 76 1 v2 (ss.length + 1) (rows ++ [v1])) :
    SysAcc w2 va v2 (ss ++ [l]) (wB.setCell ⟨w2.heap.size, 1, none⟩ v2) := by
  have hw := h.grown hg
  obtain ⟨rows, r1, r2, r3⟩ := h.rows
  have hs := RowsOwn.snoc (v' := v2) ⟨rows, r1, r2, r3⟩ hA hg hB
  refine ⟨by simpa using hw.set 1 v2, ?_, (h.mid.grown hg h.mid.size (own_ge r2)).setCell (by simp) _⟩
  exact hs.kept (grown_self wB ⟨w2.heap.size, 1, none⟩ v2) (.inr (own_whole hs.choose_spec.2.1 hw (by decide)).symm) (fun r l hr => .inr (own_whole hr hw (by decide)).symm)
theorem StrArg.kept {w w' : World} {a : Option Addr} {n c : Nat} {ss : List ByteArray} {row : Option Nat} (h : StrArg w a n c ss) (hg : w.grownBy w' row) (hne : ∀ ad, a = some ad → some ad.block ≠ row) : StrArg w' a n c ss :=
  ⟨h.nil, h.len, h.cap, h.big, h.sz, fun j hj => by
    obtain ⟨b, off, e, hc⟩ := h.cells j hj
    refine ⟨b, off, e, ?_⟩
    rw [World.cell?_of_block (hg.block b (lt_of_cell hc) (hne _ e))]
    exact hc⟩
/-- the lists of a system that lies apart from a variable, behind two stores into it -/
theorem rows_stored {w : World} {base g : Nat} {vs x y u v : Value} {ss : List (List Edg)} (h : RowsOwn w base vs ss) (hw : Whole w g 25 #[x, y]) :
    RowsOwn ((w.setCell ⟨g, 0, none⟩ u).setCell ⟨g, 1, none⟩ v) base vs ss := by
  have s1 := h.kept (grown_self w ⟨g, 0, none⟩ u) (.inr (own_whole h.choose_spec.2.1 hw (by decide)).symm) (fun r l hr => .inr (own_whole hr hw (by decide)).symm)
  have hw1 := hw.set 0 u
  exact s1.kept (grown_self _ ⟨g, 1, none⟩ v) (.inr (own_whole s1.choose_spec.2.1 hw1 (by decide)).symm) (fun r l hr => .inr (own_whole hr hw1 (by decide)).symm)
theorem strs_stored {w : World} {a : Option Addr} {n c g : Nat} {ss : List ByteArray} {u v : Value} (h : StrArg w a n c ss) (hne : ∀ ad, a = some ad → ad.block ≠ g) :
    StrArg ((w.setCell ⟨g, 0, none⟩ u).setCell ⟨g, 1, none⟩ v) a n c ss :=
  (h.kept (grown_self w ⟨g, 0, none⟩ u) (fun ad e q => hne ad e (Option.some.inj q))).kept (grown_self _ ⟨g, 1, none⟩ v) (fun ad e q => hne ad e (Option.some.inj q))
theorem sys_nil (w : World) : SysArg w none 0 0 none 0 0 noSys :=
  ⟨⟨fun _ => rfl, rfl, Nat.le_refl _, by omega, fun k hk => by omega, fun j hj => by simp [noSys] at hj⟩, by omega, fun _ => rfl, rfl, Nat.le_refl _, by omega, fun i hi => by simp [noSys] at hi⟩
end Go.Proofs.YtpmbijlldoiplaaGreatDoor
/- Plain facts: what a string of an object is read as, whatever its kind and the rows of its states; nothing here is about a program. -/
namespace Go.Proofs.YtpmbijlldoiplaaGreatDoor.Pl
open Go Go.Lib

/-- the actions of a first line of a kind -/
def headK (kw : List UInt8) (line : List UInt8) : Option (List ByteArray) :=
  match sp 32 line with
  | [] => none
  | h :: r => if h = kw ∧ actsB (r.map mk) = true then some (r.map mk) else none
/-- the line of a state -/
def rowK {R : Type} (rp : List ByteArray → List (List UInt8) → Option R) (acts : List ByteArray) (i : Nat) (line : List UInt8) : Option R :=
  match sp 32 line with
  | [] => none
  | h :: r => if h = decDigits i ++ [58] then rp acts r else none
def rowsK {R : Type} (rp : List ByteArray → List (List UInt8) → Option R) (acts : List ByteArray) : Nat → List (List UInt8) → Option (List R)
  | _, [] => some []
  | i, l :: r => match rowK rp acts i l with
    | none => none
    | some es => (rowsK rp acts (i + 1) r).map fun ss => es :: ss
/-- the actions, the rows, the error -/
def textK {R : Type} (kw : List UInt8) (rp : List ByteArray → List (List UInt8) → Option R) (s : List UInt8) : List ByteArray × List R × Int :=
  if 60000 < s.length then ([], [], 2) else
  match sp 10 (cut1 s) with
  | [] => ([], [], 11)
  | l0 :: ls =>
    match headK kw l0 with
    | none => ([], [], 11)
    | some acts =>
      match rowsK rp acts 0 ls with
      | none => ([], [], 11)
      | some ss => (acts, ss, 0)
theorem rowsK_bad {R : Type} {rp : List ByteArray → List (List UInt8) → Option R} {acts : List ByteArray} : ∀ (ls : List (List UInt8)) (i k : Nat), k < ls.length → rowK rp acts (i + k) (ls.getD k []) = none → rowsK rp acts i ls = none
  | [], i, k, h, _ => by simp at h
  | l :: ls, i, 0, _, h => by
    unfold rowsK
    have : rowK rp acts i l = none := by simpa using h
    rw [this]
  | l :: ls, i, k + 1, hk, h => by
    have ih := rowsK_bad ls (i + 1) k (by simpa using hk) (by rw [Nat.add_right_comm, Nat.add_assoc]; simpa using h)
    unfold rowsK
    rw [ih]
    split <;> rfl
theorem rowsK_good {R : Type} {rp : List ByteArray → List (List UInt8) → Option R} {acts : List ByteArray} : ∀ (ls : List (List UInt8)) (i : Nat) (ss : List R), ss.length = ls.length → (∀ k, k < ls.length → ∃ x, ss[k]? = some x ∧ rowK rp acts (i + k) (ls.getD k []) = some x) → rowsK rp acts i ls = some ss
  | [], i, ss, h, _ => by
    have : ss = [] := List.length_eq_zero_iff.1 (by simpa using h)
    subst this; rfl
  | l :: ls, i, [], h, _ => by simp at h
  | l :: ls, i, es :: ss, h, hg => by
    obtain ⟨x0, h0, h0'⟩ := hg 0 (by simp)
    have ih := rowsK_good ls (i + 1) ss (by simpa using h) (fun k hk => by
      obtain ⟨x, h1, h2⟩ := hg (k + 1) (by simpa using hk)
      exact ⟨x, by simpa using h1, by rw [Nat.add_right_comm, Nat.add_assoc]; simpa using h2⟩)
    unfold rowsK
    have h1 : rowK rp acts i l = some es := by
      simp at h0
      rw [h0]; simpa using h0'
    rw [h1, ih]
    rfl
theorem textK_large {R : Type} {kw : List UInt8} {rp : List ByteArray → List (List UInt8) → Option R} {l : List UInt8} (h : 60000 < l.length) : textK kw rp l = ([], [], 2) := if_pos h
theorem cut1_le (l : List UInt8) : (cut1 l).length ≤ l.length := by
  unfold cut1 Lib.trimSuffix
  split
  · rw [List.length_take]; omega
  · exact Nat.le_refl _
theorem mkd (l : List UInt8) : (mk l).data.toList = l := by simp [mk]
theorem mk_iff (h : List UInt8) (x : ByteArray) : mk h = x ↔ h = x.data.toList := ⟨fun q => by rw [← q, mkd], fun q => by rw [q]; exact mk_of x⟩
end Go.Proofs.YtpmbijlldoiplaaGreatDoor.Pl
namespace Go.Proofs.YtpmbijlldoiplaaGreatDoor
open Go.RowKit Pl
/-- the lines behind the first one -/
theorem textK_lines {R : Type} (kw : List UInt8) (rp : List ByteArray → List (List UInt8) → Option R) {s : ByteArray} (h : ¬ 60000 < s.data.toList.length) :
    ∃ ls : List (List UInt8), (spB 10 (mk (cut1 s.data.toList))).drop 1 = ls.map mk ∧ (spB 10 (mk (cut1 s.data.toList))).length = ls.length + 1 ∧
    textK kw rp s.data.toList = match headK kw (at_ (spB 10 (mk (cut1 s.data.toList))) 0).data.toList with
      | none => ([], [], 11)
      | some acts => match rowsK rp acts 0 ls with
        | none => ([], [], 11)
        | some ss => (acts, ss, 0) := by
  unfold textK spB
  rw [if_neg h, mkd]
  cases e : sp 10 (cut1 s.data.toList) with
  | nil => exact absurd e (sp_ne _ _)
  | cons l0 ls =>
    refine ⟨ls, rfl, by simp, ?_⟩
    have e1 : (at_ ((l0 :: ls).map mk) 0).data.toList = l0 := by
      show (mk l0).data.toList = l0
      exact mkd l0
    rw [e1]
theorem headK_eq (kw : ByteArray) (s : ByteArray) : headK kw.data.toList s.data.toList = if at_ (spB 32 s) 0 = kw ∧ actsB ((spB 32 s).drop 1) = true then some ((spB 32 s).drop 1) else none := by
  unfold headK spB
  cases e : sp 32 s.data.toList with
  | nil => exact absurd e (sp_ne _ _)
  | cons h r =>
    have e1 : at_ ((h :: r).map mk) 0 = mk h := rfl
    have e2 : ((h :: r).map mk).drop 1 = r.map mk := rfl
    rw [e1, e2]
    simp only [mk_iff]
theorem rowK_eq {R : Type} (rp : List ByteArray → List (List UInt8) → Option R) (acts : List ByteArray) (i : Nat) (s : ByteArray) : ∃ r : List (List UInt8), (spB 32 s).drop 1 = r.map mk ∧ (spB 32 s).length = r.length + 1 ∧ (∀ x ∈ r, x.length ≤ s.size) ∧
    rowK rp acts i s.data.toList = if at_ (spB 32 s) 0 = mk (Lib.decDigits i ++ [58]) then rp acts r else none := by
  have hall : ∀ x ∈ spB 32 s, x.size ≤ s.size := fun x hx => spB_size hx
  unfold rowK
  unfold spB at hall ⊢
  cases e : sp 32 s.data.toList with
  | nil => exact absurd e (sp_ne _ _)
  | cons h r =>
    refine ⟨r, rfl, by simp, fun x hx => ?_, ?_⟩
    · have := hall (mk x) (by rw [e]; exact List.mem_map_of_mem (List.mem_cons_of_mem _ hx))
      rwa [mk_size'] at this
    · have e1 : at_ ((h :: r).map mk) 0 = mk h := rfl
      rw [e1]
      simp only [mk_iff, mkd]
/-- what is read of a system -/
theorem rowsO_K (acts : List ByteArray) : ∀ (ls : List (List UInt8)) (i : Nat), rowsO acts i ls = rowsK edgesO acts i ls
  | [], _ => rfl
  | l :: ls, i => by
    have e : rowO acts i l = rowK edgesO acts i l := by unfold rowO rowK; cases sp 32 l <;> rfl
    unfold rowsO rowsK
    rw [rowsO_K acts ls (i + 1), e]
    cases rowK edgesO acts i l <;> rfl
theorem parseS_K (s : List UInt8) : parseS s = if (textK bSystem edgesO s).2.2 = 0 then (if sysB ⟨(textK bSystem edgesO s).1, (textK bSystem edgesO s).2.1⟩ = true then (⟨(textK bSystem edgesO s).1, (textK bSystem edgesO s).2.1⟩, 0) else (noSys, 20)) else (noSys, (textK bSystem edgesO s).2.2) := by
  unfold parseS textK
  by_cases h : 60000 < s.length
  · rw [if_pos h, if_pos h]; rfl
  · rw [if_neg h, if_neg h]
    cases e : sp 10 (cut1 s) with
    | nil => rfl
    | cons l0 ls =>
      have e1 : headO l0 = headK bSystem l0 := rfl
      simp only [e1]
      cases headK bSystem l0 with
      | none => rfl
      | some acts =>
        simp only [rowsO_K]
        cases rowsK edgesO acts 0 ls with
        | none => rfl
        | some ss => rfl
end Go.Proofs.YtpmbijlldoiplaaGreatDoor
/- terms.ParseText, as system.Parse calls it. -/
namespace Go.Proofs.YtpmbijlldoiplaaGreatDoor
open Go.RowKit Pl

theorem RowsOwn.low {w : World} {base base' : Nat} {v : Value} {ss : List (List Edg)} (h : RowsOwn w base v ss) (hb : base' ≤ base) : RowsOwn w base' v ss := by
  obtain ⟨rows, r1, r2, r3⟩ := h
  refine ⟨rows, r1, own_low r2 hb, fun i hi => ?_⟩
  obtain ⟨r, h1, h2⟩ := r3 i hi
  exact ⟨r, h1, own_low h2 hb⟩

set_option maxRecDepth 100000 in
set_option maxHeartbeats 8000000 in
theorem PText_any (kw s : ByteArray) (hs : s.size ≤ 9223372036854775807) (w : World) (E : Env w) :
    Calls Tryz.prog 97 #[.string kw, .string s, .func (.func 98) #[] #[]] w fun e w' => Below w.heap.size w w' ∧
      ((∃ c : Int, c ≠ 0 ∧ textK kw.data.toList edgesO s.data.toList = ([], [], c) ∧ e = .returned (.tuple #[.slice none 0 0, .slice none 0 0, .int .i64 c])) ∨
        ∃ acts ss a c vs, textK kw.data.toList edgesO s.data.toList = (acts, ss, 0) ∧ e = .returned (.tuple #[.slice a acts.length c, vs, .int .i64 0]) ∧ StrArg w' a acts.length c acts ∧ (∀ ad, a = some ad → w.heap.size ≤ ad.block) ∧
          RowsOwn w' w.heap.size vs ss ∧ (∀ i, i < ss.length → (stAt ss i).length ≤ 1000000) ∧ ss.length ≤ 1000000 ∧ actsB acts = true) := by
  obtain ⟨i2, hi2, hz20, hz21, hz22⟩ := info_parts infoRow
  have HE := Lib.hid E
  clear E
  by_cases hl : 60000 < s.size
  · have HP := Lib.hid (textK_large (kw := kw.data.toList) (rp := edgesO) (l := s.data.toList) (by rw [← Lib.size_eq]; exact hl))
    have hl' : (60000 : Int) < s.size := by omega
    go_enter Tryz.func97, Tryz.ntmps97
    go_wp2
    go_ret3
    exact ⟨Below.refl _ _, .inl ⟨2, by omega, HP.out, rfl⟩⟩
  · have hl' : (s.size : Int) ≤ 60000 := by omega
    obtain ⟨ls, hl1, hl2, hl3⟩ := textK_lines kw.data.toList edgesO (s := s) (by rw [← Lib.size_eq]; exact hl)
    have HTr := Lib.hid (trim_any s (by omega) w)
    have hu0 : (mk (cut1 s.data.toList)).size ≤ 60000 := by
      rw [mk_size']
      have := cut1_le s.data.toList
      rw [← Lib.size_eq] at this
      omega
    obtain ⟨u, HU⟩ : ∃ u, Hid (mk (cut1 s.data.toList) = u) := ⟨_, Lib.hid rfl⟩
    rw [HU.out] at HTr hl1 hl2 hl3 hu0
    have HSp := split_any 10 u (by omega) w HE.out
    have hN2 := spB_count 10 u
    have hszs : ∀ x ∈ spB 10 u, x.size ≤ 1000000 := fun x hx => Nat.le_trans (spB_size hx) (by omega)
    obtain ⟨ws, HWS⟩ : ∃ ws, Hid (spB 10 u = ws) := ⟨_, Lib.hid rfl⟩
    rw [HWS.out] at hl1 hl2 hl3 HSp hN2 hszs
    have HSz := Lib.hid hszs
    have HL1 := Lib.hid hl1
    have HL3 := Lib.hid hl3
    obtain ⟨N, HN⟩ : ∃ N, Hid (ws.length = N) := ⟨_, Lib.hid rfl⟩
    rw [HN.out] at HSp hN2 hl2
    have HL2' := Lib.hid hl2
    have HSp := Lib.hid HSp
    have hN1 : 0 < N := by omega
    clear hl1 hl2 hl3 hszs
    have hAw := strs_new w ws (by have := HN.out; omega) (fun x hx => Nat.le_trans (HSz.out x hx) (by omega))
    rw [HN.out] at hAw
    have hb1 := (Below.refl w.heap.size w).alloc (Nat.le_refl _) (.cells (ws.map Value.string).toArray 9)
    have hz1 : w.heap.size < (w.alloc (.cells (ws.map Value.string).toArray 9)).heap.size := by simp
    obtain ⟨w1, HW1⟩ : ∃ z, Hid (w.alloc (.cells (ws.map Value.string).toArray 9) = z) := ⟨_, Lib.hid rfl⟩
    rw [HW1.out] at hAw hb1 hz1
    have HAw := Lib.hid hAw
    have HB1 := Lib.hid hb1
    obtain ⟨x0, HX0⟩ : ∃ x, Hid (at_ ws 0 = x) := ⟨_, Lib.hid rfl⟩
    have c0 : w1.cell? ⟨w.heap.size, 0, none⟩ = some (.string x0) := by
      obtain ⟨b, off, e, hc⟩ := hAw.cells 0 (by have := HN.out; omega)
      cases e
      rw [← HX0.out]
      change w1.cell? _ = some (.string (at_ ws 0)) at hc
      simpa using hc
    have hx0 : x0.size ≤ 1000000 := by rw [← HX0.out]; exact HSz.out _ (at_in _ _ (by have := HN.out; omega))
    have HCl := Lib.hid (clone_any x0 hx0 w1)
    have hN0 : (0 : Int) < N := by omega
    -- the words of the first line
    have HP := Lib.hid (headK_eq kw x0)
    have hM1 := spB_pos 32 x0
    have hM2 := spB_count 32 x0
    have HSpl := fun (W : World) (hb : Below w1.heap.size w1 W) => split_any 32 x0 hx0 W ((HE.out.below HB1.out).below hb)
    have hMsz : ∀ x ∈ spB 32 x0, x.size ≤ 9223372036854775807 := fun x hx => Nat.le_trans (spB_size hx) (by omega)
    obtain ⟨hd, HHD⟩ : ∃ hd, Hid (spB 32 x0 = hd) := ⟨_, Lib.hid rfl⟩
    rw [HHD.out] at HP hM1 hM2 HSpl hMsz
    have HSpl := Lib.hid HSpl
    have HMsz := Lib.hid hMsz
    obtain ⟨M, HM⟩ : ∃ M, Hid (hd.length = M) := ⟨_, Lib.hid rfl⟩
    rw [HM.out] at hM1 hM2 HSpl
    have hM0 : (0 : Int) < M := by omega
    clear hAw hb1 hMsz
    go_enter Tryz.func97, Tryz.ntmps97
    go_wp2_with fail
    refine HTr.out.mono ?_
    rintro e w' ⟨rfl, rfl⟩
    go_wp2_with fail
    refine HSp.out.mono ?_
    rintro e w' ⟨rfl, rfl⟩
    rw [HW1.out]
    go_wp2_with fail
    refine HCl.out.mono ?_
    rintro e w2 ⟨rfl, hb2⟩
    have HB12 := Lib.hid hb2
    have hz2 := hb2.size
    clear hb2
    go_wp2_with fail
    refine (HSpl.out w2 HB12.out).mono ?_
    rintro e w' ⟨rfl, rfl⟩
    have hAh := strs_new w2 hd (by have := HM.out; omega) HMsz.out
    rw [HM.out] at hAh
    have hb3 := (Below.refl w2.heap.size w2).alloc (Nat.le_refl _) (.cells (hd.map Value.string).toArray 9)
    obtain ⟨w3, HW3⟩ : ∃ z, Hid (w2.alloc (.cells (hd.map Value.string).toArray 9) = z) := ⟨_, Lib.hid rfl⟩
    rw [HW3.out] at hAh hb3
    rw [HW3.out]
    have hz3 := hb3.size
    have HB3 := Lib.hid (HB1.out.trans ((HB12.out.trans (hb3.mono hz2)).mono (Nat.le_of_lt hz1)))
    have HB13 := Lib.hid (HB12.out.trans (hb3.mono hz2))
    obtain ⟨ah, hcut, hcutA, hbl⟩ := cut_from hAh 1 hM1
    simp only [Int.natCast_one] at hcut
    have HBL : Hid (∀ ad, ah = some ad → w.heap.size ≤ ad.block) := Lib.hid fun ad e => by
      obtain ⟨ad0, h1, h2⟩ := hbl ad e
      cases h1
      rw [h2]
      simp only
      omega
    obtain ⟨e0, e1, e2, hEr⟩ := (HE.out.below HB3.out).errs
    have HCk := Lib.hid (Check_any hEr hcutA)
    obtain ⟨y0, HY0⟩ : ∃ x, Hid (at_ hd 0 = x) := ⟨_, Lib.hid rfl⟩
    have c3 : w3.cell? ⟨w2.heap.size, 0, none⟩ = some (.string y0) := by
      obtain ⟨b, off, e, hc⟩ := hAh.cells 0 (by have := HM.out; omega)
      cases e
      rw [← HY0.out]
      change w3.cell? _ = some (.string (at_ hd 0)) at hc
      simpa using hc
    rw [HY0.out] at HP
    obtain ⟨acts, hacts⟩ : ∃ z, z = hd.drop 1 := ⟨_, rfl⟩
    have hl : M - 1 = acts.length := by rw [hacts, List.length_drop, HM.out]
    have HLn := Lib.hid hl
    rw [← hacts] at HP HCk hcutA
    have HAc := Lib.hid hcutA
    have HE3 := Lib.hid (HE.out.below HB3.out)
    clear hAh hbl hacts hl hcutA hEr hb3
    by_cases hx : y0 = kw
    · have hq : (y0.toList == kw.toList) = true := by rw [bytes_eq]; exact decide_eq_true hx
      cases ha : actsB acts
      · have HPf : Hid (textK kw.data.toList edgesO s.data.toList = ([], [], 11)) := Lib.hid (by rw [HL3.out, HX0.out, HP.out, ha, if_neg (by simp)])
        rw [ha] at HCk
        clear hx ha
        go_wp2_with fail
        refine HCk.out.mono ?_
        rintro e w' ⟨rfl, rfl⟩
        go_wp2
        go_ret3
        exact ⟨HB3.out, .inl ⟨11, by omega, HPf.out, rfl⟩⟩
      · have hac8 := ((actsB_iff acts).1 ha).1
        have HACT := Lib.hid ha
        have HP3 : Hid (textK kw.data.toList edgesO s.data.toList = match rowsK edgesO acts 0 ls with
          | none => ([], [], 11)
          | some ss => (acts, ss, 0)) := Lib.hid (by rw [HL3.out, HX0.out, HP.out, if_pos ⟨hx, ha⟩]; simp only []; cases rowsK edgesO acts 0 ls <;> rfl)
        rw [ha] at HCk
        obtain ⟨al, hcutL, hcutLA, _⟩ := cut_from HAw.out 1 hN1
        simp only [Int.natCast_one] at hcutL
        have HLi := Lib.hid (hcutLA.below HB13.out)
        have hNw : N - 1 = ls.length := by have := HL2'.out; omega
        have HNw := Lib.hid hNw
        clear hx ha hcutLA hNw
        go_wp2_with fail
        refine HCk.out.mono ?_
        rintro e w' ⟨rfl, rfl⟩
        go_wp2
        go_loopw [12, 13, 14, 15, 16, 17, 44] (fun v _ _ _ _ _ i wr => ∃ (x : Nat) (ss : List (List Edg)), i = .int .i64 x ∧ x ≤ N - 1 ∧ RowsOwn wr w3.heap.size v ss ∧ Below w3.heap.size w3 wr ∧ Hid (ss.length = x ∧ (∀ k, k < x → ∃ r, ss[k]? = some r ∧ rowK edgesO acts (0 + k) (ls.getD k []) = some r) ∧ ∀ k, k < x → (stAt ss k).length ≤ 1000000)) (fun _ _ _ _ _ _ i _ => N - (intOf i).toNat)
        case atStart => exact ⟨0, [], rfl, Nat.zero_le _, RowsOwn.none _ _, Below.refl _ _, Lib.hid ⟨rfl, fun k hk => by omega, fun k hk => by omega⟩⟩
        case round =>
          obtain ⟨x, ss, rfl, hx, hrows, hb, hss⟩ := hrel
          have HR := Lib.hid hrows
          have HB := Lib.hid hb
          have hzr := hb.size
          clear hrows hb
          by_cases hlt : x < N - 1
          · obtain ⟨bl, ol, rfl, c1⟩ := (HLi.out.below HB.out).cells x (by rw [List.length_drop]; have := HN.out; omega)
            obtain ⟨L, HLe⟩ : ∃ L, Hid (at_ (ws.drop 1) x = L) := ⟨_, Lib.hid rfl⟩
            change wr.cell? _ = some (.string (at_ (ws.drop 1) x)) at c1
            rw [HLe.out] at c1
            have HLd : Hid (L.data.toList = ls.getD x []) := Lib.hid (by
              rw [← HLe.out, HL1.out]
              unfold at_
              have hx1 : x < ls.length := by have := HNw.out; omega
              rw [List.getD_eq_getElem?_getD, List.getElem?_map, List.getElem?_eq_getElem hx1, List.getD_eq_getElem?_getD, List.getElem?_eq_getElem hx1]
              simp [mk])
            have hLs : L.size ≤ 1000000 := by
              rw [← HLe.out]
              have : at_ (ws.drop 1) x = at_ ws (1 + x) := by simp [at_, List.getD, Nat.add_comm]
              rw [this]
              exact HSz.out _ (at_in _ _ (by have := HN.out; omega))
            have HEr := Lib.hid (HE3.out.below HB.out)
            obtain ⟨r, hr1, hr2, hr3, hr4⟩ := rowK_eq edgesO acts x L
            rw [HLd.out] at hr4
            have HSpr := split_any 32 L hLs wr HEr.out
            have hK2 := spB_count 32 L
            have hKsz : ∀ y ∈ spB 32 L, y.size ≤ 9223372036854775807 := fun y hy => Nat.le_trans (spB_size hy) (by omega)
            obtain ⟨wd, HWD⟩ : ∃ wd, Hid (spB 32 L = wd) := ⟨_, Lib.hid rfl⟩
            rw [HWD.out] at hr1 hr2 hr4 HSpr hK2 hKsz
            obtain ⟨K, HK⟩ : ∃ K, Hid (wd.length = K) := ⟨_, Lib.hid rfl⟩
            rw [HK.out] at hr2 HSpr hK2
            have HSpr := Lib.hid HSpr
            have hK1 : 0 < K := by omega
            have hK0 : (0 : Int) < K := by omega
            have hAd := strs_new wr wd (by have := HK.out; omega) hKsz
            rw [HK.out] at hAd
            have hbs := (Below.refl wr.heap.size wr).alloc (Nat.le_refl _) (.cells (wd.map Value.string).toArray 9)
            obtain ⟨wS, HWS'⟩ : ∃ z, Hid (wr.alloc (.cells (wd.map Value.string).toArray 9) = z) := ⟨_, Lib.hid rfl⟩
            rw [HWS'.out] at hAd hbs
            obtain ⟨ad, hcutD, hcutDA, _⟩ := cut_from hAd 1 hK1
            simp only [Int.natCast_one] at hcutD
            rw [hr1] at hcutDA
            obtain ⟨z0, HZ0⟩ : ∃ z, Hid (at_ wd 0 = z) := ⟨_, Lib.hid rfl⟩
            have cd : wS.cell? ⟨wr.heap.size, 0, none⟩ = some (.string z0) := by
              obtain ⟨b, off, e, hc⟩ := hAd.cells 0 (by have := HK.out; omega)
              cases e
              rw [← HZ0.out]
              change wS.cell? _ = some (.string (at_ wd 0)) at hc
              simpa using hc
            rw [HZ0.out] at hr4
            have HR4 := Lib.hid hr4
            have hzS := hbs.size
            have HBS := Lib.hid (HB.out.trans (hbs.mono hzr))
            have HPS := Lib.hid (parseState_any (r := r) (HE3.out.below HBS.out) (HAc.out.below HBS.out) hcutDA HACT.out (by omega) (fun y hy => by have := hr3 y hy; omega))
            have HRS := Lib.hid (HR.out.below hbs)
            clear hr1 hr2 hr3 hr4 hKsz hAd hbs hcutDA
            go_wp2_with fail
            refine HSpr.out.mono ?_
            rintro e w' ⟨rfl, rfl⟩
            rw [HWS'.out]
            go_wp2_with fail
            refine HPS.out.mono ?_
            rintro e wA ⟨hbA, hcase⟩
            have HbA := Lib.hid hbA
            have hzA := hbA.size
            have cA := up_cell hbA cd
            have HBA := Lib.hid (HBS.out.trans (hbA.mono HBS.out.size))
            clear hbA
            rcases hcase with ⟨hno, rfl⟩ | ⟨es, v, hyes, rfl, hEo, hel⟩
            · have HPf : Hid (textK kw.data.toList edgesO s.data.toList = ([], [], 11)) := Lib.hid (by
                rw [HP3.out, rowsK_bad ls 0 x (by have := HNw.out; omega) (by rw [Nat.zero_add, HR4.out, hno]; split <;> rfl)])
              clear hno
              go_wp2
              refine wp_region_quiet_below (by kernel_rfl) (by kernel_rfl) ?_
              repeat (go_big_quiet_step (fail))
              refine wpQuiet_nil ?_
              intro _ hw'
              obtain ⟨⟨dq, osq⟩, hw''⟩ := hw'
              subst hw''
              have hq1 := below_regrown wA dq osq
              go_wp2
              go_ret3
              exact ⟨HB3.out.trans ((HBA.out.trans (hq1.mono HBA.out.size)).mono HB3.out.size), .inl ⟨11, by omega, HPf.out, rfl⟩⟩
            · obtain ⟨va, vc, rfl⟩ := own_slice' hEo
              have HI := fun (W : World) (hb : Below wA.heap.size wA W) => itoa_any x (by omega) W ((HE3.out.below HBA.out).below hb)
              obtain ⟨D, HD⟩ : ∃ D, Hid (mk (Lib.decDigits x) = D) := ⟨_, Lib.hid rfl⟩
              rw [HD.out] at HI
              have HI := Lib.hid HI
              have hD : D.size ≤ 21 := by rw [← HD.out, mk_size']; exact dec_length x (by omega)
              have hcol : (⟨#[58]⟩ : ByteArray).size = 1 := rfl
              have HR5 : Hid (rowK edgesO acts x (ls.getD x []) = if z0 = D ++ (⟨#[58]⟩ : ByteArray) then some es else none) := Lib.hid (by
                rw [HR4.out, hyes, ← HD.out, show (⟨#[58]⟩ : ByteArray) = mk [58] from rfl, mk_add])
              have HEo := Lib.hid hEo
              have hadd1 : ¬ 9223372036854775807 < D.size + 1 := by omega
              have hadd2 : ¬ 9223372036854775807 < D.size + (⟨#[58]⟩ : ByteArray).size := by omega
              clear hyes hEo
              by_cases hx : z0 = D ++ (⟨#[58]⟩ : ByteArray)
              · have hq : (z0.toList == (D ++ (⟨#[58]⟩ : ByteArray)).toList) = true := by rw [bytes_eq]; exact decide_eq_true hx
                have HR6 : Hid (rowK edgesO acts x (ls.getD x []) = some es) := Lib.hid (by rw [HR5.out, if_pos hx])
                clear hx
                go_wp2
                go_region_held3 (fun w' => w'.cell? ⟨wr.heap.size, 0, none⟩ = some (.string z0))
                  ((first | assumption | go_keep))
                  (first | (go_at_call 69; refine (HI.out _ (by first | exact (Below.refl _ _).drew | exact Below.refl _ _)).mono ?_; rintro e wI ⟨rfl, hbI⟩; have kI := up_cell hbI cA))
                have hbI' : Below wA.heap.size wA wI := by first | exact (Below.refl _ wA).drew.trans hbI | exact hbI
                have hzI := hbI'.size
                have HBI := Lib.hid (HBA.out.trans (hbI'.mono HBA.out.size))
                have hRI := (HRS.out.below HbA.out).below hbI'
                have hEI : EdgeOwn wI w3.heap.size (.slice va es.length vc) es := own_low (own_up' HEo.out hbI') HBS.out.size
                obtain ⟨rows, r1, r2, r3⟩ := hRI
                obtain ⟨bb, cc, rfl⟩ := own_slice' r2
                have HOW := Lib.hid (r2.alloc (.cells #[.slice va es.length vc] 76))
                have HRI : Hid (RowsOwn (wI.alloc (.cells #[.slice va es.length vc] 76)) w3.heap.size (.slice bb ss.length cc) ss) := Lib.hid ((RowsOwn.alloc ⟨rows, r1, r2, r3⟩ _))
                have HEI := Lib.hid (EdgeOwn.alloc hEI (.cells #[.slice va es.length vc] 76))
                have hssl : ss.length ≤ 1000000 := by have := hss.out.1; omega
                have HG : Hid ((ss ++ [es]).length = x + 1 ∧ (∀ k, k < x + 1 → ∃ r, (ss ++ [es])[k]? = some r ∧ rowK edgesO acts (0 + k) (ls.getD k []) = some r) ∧ ∀ k, k < x + 1 → (stAt (ss ++ [es]) k).length ≤ 1000000) := Lib.hid (by
                  obtain ⟨h1, h2, h3⟩ := hss.out
                  refine ⟨by simp [h1], fun k hk => ?_, fun k hk => ?_⟩
                  · by_cases e : k = x
                    · subst e
                      exact ⟨es, by rw [← h1]; simp, by rw [Nat.zero_add]; exact HR6.out⟩
                    · obtain ⟨r', g1, g2⟩ := h2 k (by omega)
                      exact ⟨r', by rw [List.getElem?_append_left (by omega)]; exact g1, g2⟩
                  · by_cases e : k = x
                    · subst e
                      rw [← h1, stAt_snoc]; exact hel
                    · rw [stAt_app _ _ _ (by omega)]; exact h3 k (by omega))
                clear kI hbI hbI' hEI r1 r2 r3
                go_wp2_with (at_builtin; (refine wpList_append_sz rfl (.tmp 70) (.tmp 72) 23 rfl w3.heap.size 76 i2 (.slice none 0 0) 1 24 Tryz.underlying23 hi2 hz20 hz21 hz22 rfl (by decide) (.slice bb ss.length cc) rfl ss.length rows HOW.out (some ⟨wI.heap.size, 0, none⟩) 1 1 rfl [.slice va es.length vc] (fun h => by cases h) rfl (one_src _ _ _) (by simp [Value.oneCell']) (by unfold maxLen; omega) (by omega) (by have := HBI.out.size; simp; omega) ?_); intro v2 wB hB hgB hatB; refine Hid.out ?_)
                refine Lib.hid ?_
                obtain ⟨vb, vd, rfl⟩ := own_slice' hB
                have HRn := Lib.hid (HRI.out.snoc (v' := .slice vb (ss.length + 1) vd) HEI.out hgB (fun rows' e1 e2 => by
                  rw [own_eq e1 HOW.out]; exact hB))
                have HBn := Lib.hid ((HBI.out.alloc HBI.out.size (.cells #[.slice va es.length vc] 76)).grown hgB (by have := HBI.out.size; simp; omega) (own_ge HOW.out))
                clear hB hgB hatB
                go_wp2
                go_roundw
                case rel => exact ⟨x + 1, ss ++ [es], by go_num, by omega, HRn.out, HBn.out, HG⟩
                case measure => simp [intOf]; omega
              · have hq : (z0.toList == (D ++ (⟨#[58]⟩ : ByteArray)).toList) = false := by rw [bytes_eq]; exact decide_eq_false hx
                have HPf : Hid (textK kw.data.toList edgesO s.data.toList = ([], [], 11)) := Lib.hid (by
                  rw [HP3.out, rowsK_bad ls 0 x (by have := HNw.out; omega) (by rw [Nat.zero_add, HR5.out, if_neg hx])])
                clear hx
                go_wp2
                go_region_held3 (fun w' => w'.cell? ⟨wr.heap.size, 0, none⟩ = some (.string z0))
                  ((first | assumption | go_keep))
                  (first | (go_at_call 69; refine (HI.out _ (by first | exact (Below.refl _ _).drew | exact Below.refl _ _)).mono ?_; rintro e wI ⟨rfl, hbI⟩; have kI := up_cell hbI cA))
                have hbI' : Below wA.heap.size wA wI := by first | exact (Below.refl _ wA).drew.trans hbI | exact hbI
                have HBI := Lib.hid (HBA.out.trans (hbI'.mono HBA.out.size))
                clear kI hbI hbI'
                go_wp2
                go_ret3
                exact ⟨HB3.out.trans (HBI.out.mono HB3.out.size), .inl ⟨11, by omega, HPf.out, rfl⟩⟩
          · have hx1 : x = ls.length := by have := HNw.out; omega
            have HRow : Hid (rowsK edgesO acts 0 ls = some ss) := Lib.hid (rowsK_good ls 0 ss (by rw [hss.out.1]; exact hx1) (fun k hk => hss.out.2.1 k (by omega)))
            have HPf : Hid (textK kw.data.toList edgesO s.data.toList = (acts, ss, 0)) := Lib.hid (by rw [HP3.out, HRow.out])
            have hssl : ss.length ≤ 1000000 := by have := hss.out.1; omega
            obtain ⟨rows, r1, r2, r3⟩ := HR.out
            obtain ⟨bb, cc, rfl⟩ := own_slice' r2
            clear r1 r2 r3
            go_wp2
            go_ret3
            exact ⟨HB3.out.trans (HB.out.mono HB3.out.size), .inr ⟨acts, ss, ah, M - 1, _, HPf.out, by rw [HLn.out]; rfl, by have := HAc.out.below HB.out; rw [HLn.out] at this ⊢; exact this, HBL.out, HR.out.low HB3.out.size, fun i hi => hss.out.2.2 i (by rw [← hss.out.1]; exact hi), hssl, HACT.out⟩⟩
    · have hq : (y0.toList == kw.toList) = false := by rw [bytes_eq]; exact decide_eq_false hx
      have HPf : Hid (textK kw.data.toList edgesO s.data.toList = ([], [], 11)) := Lib.hid (by rw [HL3.out, HX0.out, HP.out, if_neg (fun h => hx h.1)])
      clear hx
      go_wp2
      go_ret3
      exact ⟨HB3.out, .inl ⟨11, by omega, HPf.out, rfl⟩⟩
end Go.Proofs.YtpmbijlldoiplaaGreatDoor
/- system.Parse. -/
namespace Go.Proofs.YtpmbijlldoiplaaGreatDoor
open Go.RowKit Pl

theorem parseS_large {l : List UInt8} (h : 60000 < l.length) : parseS l = (noSys, 2) := if_pos h
/-- the lines behind the first one -/
theorem parseS_lines {s : ByteArray} (h : ¬ 60000 < s.data.toList.length) : ∃ ls : List (List UInt8), (spB 10 (mk (cut1 s.data.toList))).drop 1 = ls.map mk ∧ (spB 10 (mk (cut1 s.data.toList))).length = ls.length + 1 ∧
    parseS s.data.toList = match headO (at_ (spB 10 (mk (cut1 s.data.toList))) 0).data.toList with
      | none => (noSys, 11)
      | some acts => match rowsO acts 0 ls with
        | none => (noSys, 11)
        | some ss => if sysB ⟨acts, ss⟩ = true then (⟨acts, ss⟩, 0) else (noSys, 20) := by
  unfold parseS spB
  rw [if_neg h, mk_data]
  cases e : sp 10 (cut1 s.data.toList) with
  | nil => exact absurd e (sp_ne _ _)
  | cons l0 ls =>
    refine ⟨ls, rfl, by simp, ?_⟩
    have e1 : (at_ ((l0 :: ls).map mk) 0).data.toList = l0 := by
      show (mk l0).data.toList = l0
      exact mk_data l0
    rw [e1]
    rfl
/-- rows one by one -/
theorem rowsO_bad {acts : List ByteArray} : ∀ (ls : List (List UInt8)) (i k : Nat), k < ls.length → rowO acts (i + k) (ls.getD k []) = none → rowsO acts i ls = none
  | [], i, k, h, _ => by simp at h
  | l :: ls, i, 0, _, h => by
    unfold rowsO
    have : rowO acts i l = none := by simpa using h
    rw [this]
  | l :: ls, i, k + 1, hk, h => by
    have ih := rowsO_bad ls (i + 1) k (by simpa using hk) (by rw [Nat.add_right_comm, Nat.add_assoc]; simpa using h)
    unfold rowsO
    rw [ih]
    split <;> rfl
theorem rowsO_good {acts : List ByteArray} : ∀ (ls : List (List UInt8)) (i : Nat) (ss : List (List Edg)), ss.length = ls.length → (∀ k, k < ls.length → rowO acts (i + k) (ls.getD k []) = some (stAt ss k)) → rowsO acts i ls = some ss
  | [], i, ss, h, _ => by
    have : ss = [] := List.length_eq_zero_iff.1 (by simpa using h)
    subst this; rfl
  | l :: ls, i, [], h, _ => by simp at h
  | l :: ls, i, es :: ss, h, hg => by
    have h0 := hg 0 (by simp)
    have ih := rowsO_good ls (i + 1) ss (by simpa using h) (fun k hk => by
      have := hg (k + 1) (by simpa using hk)
      rw [Nat.add_right_comm, Nat.add_assoc]
      simpa [stAt, List.getD] using this)
    unfold rowsO
    have h1 : rowO acts i l = some es := by simpa [stAt, List.getD] using h0
    rw [h1, ih]
    rfl

set_option maxRecDepth 100000 in
set_option maxHeartbeats 8000000 in
theorem SParse_any (s : ByteArray) (hs : s.size ≤ 9223372036854775807) (w : World) (E : Env w) :
    Calls Tryz.prog 43 #[.string s] w fun e w' => ∃ a n c b k d, e = .returned (.tuple #[.agg #[.slice a n c, .slice b k d], .int .i64 (parseS s.data.toList).2]) ∧ SysArg w' a n c b k d (parseS s.data.toList).1 ∧ Below w.heap.size w w' := by
  have HE := Lib.hid E
  clear E
  have hb1 := (Below.refl w.heap.size w).alloc (Nat.le_refl _) (.cells #[.slice none 0 0, .slice none 0 0] 25)
  have hres := Whole.new w 25 #[.slice none 0 0, .slice none 0 0]
  have HPT := Lib.hid (PText_any ⟨#[115, 121, 115, 116, 101, 109]⟩ s hs _ (HE.out.below hb1))
  have HK := Lib.hid (parseS_K s.data.toList)
  have HB1 := Lib.hid hb1
  have HRes := Lib.hid hres
  clear hb1 hres
  go_enter Tryz.func43, Tryz.ntmps43
  go_wp2_with fail
  refine HPT.out.mono ?_
  rintro e w2 ⟨hb2, hcase⟩
  have hz2 : w.heap.size < w2.heap.size := by have := hb2.size; simp at this; omega
  have hres2 := HRes.out.below hb2 HRes.out.lt
  have r0 := hres2.cell 0
  have r1 := hres2.cell 1
  have f0 := hres2.frozen 0
  have f1 := hres2.frozen 1
  have HR2 := Lib.hid hres2
  simp only [List.getElem?_toArray, List.getElem?_cons_succ, List.getElem?_cons_zero] at r0 r1
  have HBw := Lib.hid (HB1.out.trans (hb2.mono HB1.out.size))
  clear hb2 hres2
  rcases hcase with ⟨cd, hne, ht, rfl⟩ | ⟨acts, ss, a, c, vs, ht, rfl, hAc, hbl, hRw, hst, hsl, hact⟩
  · have HP : Hid (parseS s.data.toList = (noSys, cd)) := Lib.hid (by
      rw [HK.out, show textK bSystem edgesO s.data.toList = ([], [], cd) from ht]
      exact if_neg hne)
    have hq : ((cd : Int) != 0) = true := by rw [bne_iff_ne]; exact hne
    have g0 := (HR2.out.set 0 (.slice none 0 0)).cell 0
    have g1 := ((HR2.out.set 0 (.slice none 0 0)).set 1 (.slice none 0 0)).cell 1
    simp only [List.setIfInBounds_toArray, List.set_cons_zero, List.set_cons_succ, List.getElem?_toArray, List.getElem?_cons_succ, List.getElem?_cons_zero] at g0 g1
    have HBe := Lib.hid ((HBw.out.setCell (p := ⟨w.heap.size, 0, none⟩) (Nat.le_refl _) (.slice none 0 0)).setCell (p := ⟨w.heap.size, 1, none⟩) (Nat.le_refl _) (.slice none 0 0))
    clear ht hne
    go_wp2
    exact bodyPost_ret (v := .tuple #[.agg #[.slice none 0 0, .slice none 0 0], .int .i64 cd]) (by simp [results, Tryz.results43, go_sem, g0, g1]) rfl ⟨none, 0, 0, none, 0, 0, by rw [HP.out], by rw [HP.out]; exact sys_nil _, HBe.out⟩
  · obtain ⟨bb, cc, rfl, hd, hnil, hrows⟩ := hRw.arg (fun i hi => Nat.le_trans (hst i hi) (by decide))
    have HST : Hid (∀ i, i < ss.length → (stAt ss i).length ≤ 140737488355328) := Lib.hid fun i hi => Nat.le_trans (hst i hi) (by decide)
    have hbo : Below w2.heap.size w2 (w2.alloc (.cells #[.slice a acts.length c, .slice bb ss.length cc] 25)) := (Below.refl _ w2).alloc (Nat.le_refl _) _
    have hbox := Whole.new w2 25 #[.slice a acts.length c, .slice bb ss.length cc]
    have hac8 := ((actsB_iff acts).1 hact).1
    have hAg : SysArg (w2.alloc (.cells #[.slice a acts.length c, .slice bb ss.length cc] 25)) a acts.length c bb ss.length cc ⟨acts, ss⟩ := ⟨hAc.below hbo, by omega, hnil, rfl, hd, by omega, hrows.below hbo⟩
    have HKo : Hid (parseS s.data.toList = if sysB ⟨acts, ss⟩ = true then (⟨acts, ss⟩, 0) else (noSys, 20)) := Lib.hid (by
      rw [HK.out, show textK bSystem edgesO s.data.toList = (acts, ss, 0) from ht]
      exact if_pos rfl)
    obtain ⟨e0, e1, e2, hErr⟩ := (HE.out.below (HBw.out.trans (hbo.mono HBw.out.size))).errs
    have HCk := Lib.hid (SCheck_any hErr hAg)
    have HAc := Lib.hid hAc
    have HRw := Lib.hid hRw
    have HBo := Lib.hid hbo
    have HBox := Lib.hid hbox
    have HBL : Hid (∀ ad, a = some ad → ad.block ≠ w.heap.size) := Lib.hid fun ad e => by have := hbl ad e; simp at this; omega
    clear hd hnil hrows hst hbo hbox hAg hErr hAc hRw ht hbl hact
    go_wp2_with fail
    refine HCk.out.mono ?_
    rintro e wC ⟨rfl, hbC⟩
    have hzC : w2.heap.size < wC.heap.size := by have := hbC.size; simp at this; omega
    have hb2C := HBo.out.trans (hbC.mono HBo.out.size)
    have hrC := HR2.out.below hb2C HR2.out.lt
    have hbT := HBw.out.trans (hb2C.mono HBw.out.size)
    have hbx := HBox.out.below hbC HBox.out.lt
    have k0 := hbx.cell 0
    have k1 := hbx.cell 1
    have HArg := Lib.hid (HRw.out.below hb2C)
    have HStr := Lib.hid (HAc.out.below hb2C)
    have q0 := hrC.cell 0
    have q1 := hrC.cell 1
    have q2 := hrC.frozen 0
    have q3 := hrC.frozen 1
    have q4 := hrC.lt
    have HrC := Lib.hid hrC
    simp only [List.getElem?_toArray, List.getElem?_cons_succ, List.getElem?_cons_zero] at k0 k1 q0 q1
    clear hbC hb2C hbx
    by_cases hck : sysB ⟨acts, ss⟩ = true
    · have HP : Hid (parseS s.data.toList = (⟨acts, ss⟩, 0)) := Lib.hid (by rw [HKo.out]; exact if_pos hck)
      rw [chk_yes hck]
      have g0 := (hrC.set 0 (.slice a acts.length c)).cell 0
      have g1 := ((hrC.set 0 (.slice a acts.length c)).set 1 (.slice bb ss.length cc)).cell 1
      simp only [List.setIfInBounds_toArray, List.set_cons_zero, List.set_cons_succ, List.getElem?_toArray, List.getElem?_cons_succ, List.getElem?_cons_zero] at g0 g1
      have HBe := Lib.hid ((hbT.setCell (p := ⟨w.heap.size, 0, none⟩) (Nat.le_refl _) (.slice a acts.length c)).setCell (p := ⟨w.heap.size, 1, none⟩) (Nat.le_refl _) (.slice bb ss.length cc))
      have HFin : Hid (SysArg ((wC.setCell ⟨w.heap.size, 0, none⟩ (.slice a acts.length c)).setCell ⟨w.heap.size, 1, none⟩ (.slice bb ss.length cc)) a acts.length c bb ss.length cc ⟨acts, ss⟩) := Lib.hid (by
        obtain ⟨b', d', e, hd, hnil, hrows⟩ := (rows_stored (u := .slice a acts.length c) (v := .slice bb ss.length cc) HArg.out hrC).arg HST.out
        cases e
        exact ⟨strs_stored HStr.out HBL.out, by omega, hnil, rfl, hd, by omega, hrows⟩)
      clear hrC hbT hck
      go_wp2
      exact bodyPost_ret (v := .tuple #[.agg #[.slice a acts.length c, .slice bb ss.length cc], .int .i64 0]) (by simp [results, Tryz.results43, go_sem, g0, g1]) rfl ⟨a, acts.length, c, bb, ss.length, cc, by rw [HP.out], by rw [HP.out]; exact HFin.out, HBe.out⟩
    · have HP : Hid (parseS s.data.toList = (noSys, 20)) := Lib.hid (by rw [HKo.out]; exact if_neg hck)
      rw [chk_no (by simpa using hck)]
      have g0 := (hrC.set 0 (.slice none 0 0)).cell 0
      have g1 := ((hrC.set 0 (.slice none 0 0)).set 1 (.slice none 0 0)).cell 1
      simp only [List.setIfInBounds_toArray, List.set_cons_zero, List.set_cons_succ, List.getElem?_toArray, List.getElem?_cons_succ, List.getElem?_cons_zero] at g0 g1
      have HBe := Lib.hid ((hbT.setCell (p := ⟨w.heap.size, 0, none⟩) (Nat.le_refl _) (.slice none 0 0)).setCell (p := ⟨w.heap.size, 1, none⟩) (Nat.le_refl _) (.slice none 0 0))
      clear hrC hbT hck
      go_wp2
      exact bodyPost_ret (v := .tuple #[.agg #[.slice none 0 0, .slice none 0 0], .int .i64 20]) (by simp [results, Tryz.results43, go_sem, g0, g1]) rfl ⟨none, 0, 0, none, 0, 0, by rw [HP.out], by rw [HP.out]; exact sys_nil _, HBe.out⟩
end Go.Proofs.YtpmbijlldoiplaaGreatDoor
/- offered; checkState; system.Offer. -/
namespace Go.Proofs.YtpmbijlldoiplaaGreatDoor
open Go.RowKit Pl

def offN (l : List Edg) : Nat := l.foldl (fun s e => s ||| 2 ^ e.1.toNat) 0
theorem offN_take {l : List Edg} {j : Nat} (h : j < l.length) : offN (l.take (j + 1)) = offN (l.take j) ||| 2 ^ (edAt l j).1.toNat := by
  have e : edAt l j = l[j] := by simp [edAt, List.getD, h]
  unfold offN
  rw [List.take_succ_eq_append_getElem h, List.foldl_append, e]
  rfl
theorem offN_lt {l : List Edg} (h : ∀ k, k < l.length → 0 ≤ (edAt l k).1 ∧ (edAt l k).1 < 8) : ∀ j, j ≤ l.length → offN (l.take j) < 256
  | 0, _ => by simp [offN]
  | j + 1, hj => by
    rw [offN_take (by omega)]
    have h1 := h j (by omega)
    exact Nat.or_lt_two_pow (n := 8) (offN_lt h j (by omega)) (Nat.pow_lt_pow_right (by decide) (by omega))

theorem offered_any {w : World} {a : Option Addr} {n c : Nat} {l : List Edg} (A : EdgeArg w a n c l) (h8 : ∀ k, k < l.length → 0 ≤ (edAt l k).1 ∧ (edAt l k).1 < 8) :
    Calls Tryz.prog 92 #[.slice a n c] w fun e w' => e = .returned (.int .i64 (offN l)) ∧ Below w.heap.size w w' := by
  have HA := Lib.hid A
  have hn : n ≤ 140737488355328 := A.big
  have H8 := Lib.hid h8
  clear A h8
  go_enter Tryz.func92, Tryz.ntmps92
  go_wp2
  go_loopw [3, 5, 8] (fun s _ i wr => ∃ j t : Nat, j ≤ n ∧ i = .int .i64 j ∧ s = .int .i64 t ∧ t < 256 ∧ Hid (t = offN (l.take j)) ∧ Below w.heap.size w wr) (fun _ _ i _ => n - (intOf i).toNat)
  case atStart => exact ⟨0, 0, Nat.zero_le _, rfl, rfl, by decide, Lib.hid rfl, Below.refl _ _⟩
  case round =>
    obtain ⟨j, t, hj, rfl, rfl, ht, htb, hb⟩ := hrel
    by_cases hlt : j < n
    · obtain ⟨b, off, rfl, c0, c1⟩ := (HA.out.cells.below hb) j (by have := HA.out.len; omega)
      obtain ⟨h1, h2⟩ := H8.out j (by have := HA.out.len; omega)
      obtain ⟨m, hm⟩ := Int.eq_ofNat_of_zero_le h1
      obtain ⟨x2, hx2⟩ : ∃ x2, x2 = (edAt l j).2 := ⟨_, rfl⟩
      rw [← hx2] at c1
      rw [hm] at c0 h2
      obtain ⟨R, HR⟩ : ∃ R : Nat, Hid (R = t ||| 2 ^ m) := ⟨_, Lib.hid rfl⟩
      have hR : R < 256 := by rw [HR.out]; exact Nat.or_lt_two_pow (n := 8) ht (Nat.pow_lt_pow_right (by decide) (by omega))
      have HT : Hid (R = offN (l.take (j + 1))) := Lib.hid (by rw [offN_take (by have := HA.out.len; omega), hm, ← htb.out, HR.out]; rfl)
      have HO : Hid (bits .or .i64 (t : Int) (wrap64 (2 ^ m)) = (R : Int)) := Lib.hid (by
        have h2 := pow_le m (by omega)
        have h3 : ((2 ^ m : Nat) : Int) = (2 : Int) ^ m := by norm_cast
        have h4 : 2 ^ m < 256 := Nat.pow_lt_pow_right (n := 8) (by decide) (by omega)
        rw [IntWalk.wrap64_in _ ⟨by omega, by omega⟩, ← h3, HR.out]
        exact i64_or_nat t _ (by omega) (by omega))
      have HB := Lib.hid (hb.alloc hb.size (.cells #[.int .i64 m, .int .i64 x2] 85))
      clear hb h1 hm hx2
      go_wp2
      rw [HO.out]
      go_wp2
      go_roundw
      case rel => exact ⟨j + 1, R, by omega, by go_num, rfl, hR, HT, HB.out⟩
      case measure => simp [intOf]; omega
    · have HT : Hid (t = offN l) := Lib.hid (by
        have := htb.out
        rw [List.take_of_length_le (by have := HA.out.len; omega)] at this
        exact this)
      have HB := Lib.hid hb
      clear hb
      go_wp2
      go_ret
      exact ⟨by rw [HT.out]; rfl, HB.out⟩

/-- the error for a system and a state -/
def stC (m : Syst) (x : Int) : Int := if sysB m = true then (if 0 ≤ x ∧ x < m.states.length then 0 else 1) else 20
set_option maxRecDepth 100000 in
set_option maxHeartbeats 8000000 in
theorem checkState_any {w : World} {a : Option Addr} {n c : Nat} {b : Option Addr} {k d : Nat} {m : Syst} (x : Int) (hx : -9223372036854775808 ≤ x) (hx' : x ≤ 9223372036854775807) {e0 e1 e2 : Addr} (E : Errs w e0 e1 e2) (A : SysArg w a n c b k d m) :
    Calls Tryz.prog 49 #[.agg #[.slice a n c, .slice b k d], .int .i64 x] w fun e w' => e = .returned (.int .i64 (stC m x)) ∧ Below w.heap.size w w' := by
  have hB := (Below.refl w.heap.size w).alloc (Nat.le_refl _) (.cells #[.slice a n c, .slice b k d] 25)
  have hA := A.below hB
  have HC := Lib.hid (SCheck_any (E.below hB) hA)
  have HK := Lib.hid A.len
  have hk2 : k ≤ 140737488355328 := by have := A.cap; have := A.big; omega
  have HBB := Lib.hid hB
  have o2 : (w.alloc (.cells #[.slice a n c, .slice b k d] 25)).cell? ⟨w.heap.size, 1, none⟩ = some (.slice b k d) := (Whole.new w 25 #[.slice a n c, .slice b k d]).cell 1
  clear hB hA A E
  go_enter Tryz.func49, Tryz.ntmps49
  go_wp2_with fail
  refine HC.out.mono ?_
  rintro e w2 ⟨rfl, hb⟩
  have HB := Lib.hid (HBB.out.trans (hb.mono HBB.out.size))
  have o2C := up_cell hb o2
  clear hb
  by_cases hs : sysB m = true
  · rw [chk_yes hs]
    have HS := Lib.hid hs
    clear hs
    by_cases h0 : x < 0
    · have HV : Hid (stC m x = 1) := Lib.hid (by unfold stC; rw [if_pos HS.out, if_neg (by have := HK.out; omega)])
      go_wp2
      go_ret
      exact ⟨by rw [HV.out]; rfl, HB.out⟩
    · by_cases h1 : x < k
      · have HV : Hid (stC m x = 0) := Lib.hid (by unfold stC; rw [if_pos HS.out, if_pos (by have := HK.out; omega)])
        go_wp2
        go_ret
        exact ⟨by rw [HV.out]; rfl, HB.out⟩
      · have HV : Hid (stC m x = 1) := Lib.hid (by unfold stC; rw [if_pos HS.out, if_neg (by have := HK.out; omega)])
        go_wp2
        go_ret
        exact ⟨by rw [HV.out]; rfl, HB.out⟩
  · have HV : Hid (stC m x = 20) := Lib.hid (if_neg hs)
    rw [chk_no (by simpa using hs)]
    go_wp2
    go_ret
    exact ⟨by rw [HV.out]; rfl, HB.out⟩

def offerV (m : Syst) (x : Int) : Int := if stC m x = 0 then (offN (stAt m.states x.toNat) : Int) else 0
set_option maxRecDepth 100000 in
set_option maxHeartbeats 8000000 in
theorem Offer_any {w : World} {a : Option Addr} {n c : Nat} {b : Option Addr} {k d : Nat} {m : Syst} (x : Int) (hx : -9223372036854775808 ≤ x) (hx' : x ≤ 9223372036854775807) {e0 e1 e2 : Addr} (E : Errs w e0 e1 e2) (A : SysArg w a n c b k d m) :
    Calls Tryz.prog 44 #[.agg #[.slice a n c, .slice b k d], .int .i64 x] w fun e w' => e = .returned (.tuple #[.int .i64 (offerV m x), .int .i64 (stC m x)]) ∧ Below w.heap.size w w' := by
  have hB := (Below.refl w.heap.size w).alloc (Nat.le_refl _) (.cells #[.slice a n c, .slice b k d] 25)
  have hA := A.below hB
  have HA := Lib.hid hA
  have HC := Lib.hid (checkState_any x hx hx' (E.below hB) hA)
  have HK := Lib.hid A.len
  have hk2 : k ≤ 140737488355328 := by have := A.cap; have := A.big; omega
  have HBB := Lib.hid hB
  have o2 : (w.alloc (.cells #[.slice a n c, .slice b k d] 25)).cell? ⟨w.heap.size, 1, none⟩ = some (.slice b k d) := (Whole.new w 25 #[.slice a n c, .slice b k d]).cell 1
  clear hB hA A E
  go_enter Tryz.func44, Tryz.ntmps44
  go_wp2_with fail
  refine HC.out.mono ?_
  rintro e w2 ⟨rfl, hb⟩
  have HB := Lib.hid (HBB.out.trans (hb.mono HBB.out.size))
  have o2C := up_cell hb o2
  have HA2 := Lib.hid (HA.out.below hb)
  clear hb
  by_cases hs : stC m x = 0
  · have hx : sysB m = true ∧ 0 ≤ x ∧ x < m.states.length := by
      unfold stC at hs
      split at hs
      · rename_i h
        split at hs
        · exact ⟨h, by assumption⟩
        · cases hs
      · cases hs
    obtain ⟨h1, h2, h3⟩ := hx
    obtain ⟨j, rfl⟩ := Int.eq_ofNat_of_zero_le h2
    have hj : j < k := by have := HK.out; omega
    obtain ⟨bb, off, rfl, ai, ni, ci, c1, hE⟩ := HA2.out.rows j (by omega)
    obtain ⟨h4, h5, h6, h7, h8⟩ := (sysB_iff m).1 h1
    have hac8 := ((actsB_iff m.acts).1 h4).1
    have HO := Lib.hid (offered_any hE (fun q hq => by
      have := (edgesB_iff _ _ _).1 (h7 j (by omega)) q hq
      have := (okE_iff _ _ _).1 (by unfold edgeB at this; rw [Bool.and_eq_true] at this; exact this.1)
      omega))
    have HV : Hid (offerV m j = offN (stAt m.states j)) := Lib.hid (if_pos hs)
    have HSV := Lib.hid hs
    rw [hs]
    clear hs h1 h2 h3 hE h4 h5 h6 h7 h8 hac8
    go_wp2_with fail
    refine HO.out.mono ?_
    rintro e w3 ⟨rfl, hb⟩
    have HB3 := Lib.hid (HB.out.trans (hb.mono HB.out.size))
    clear hb
    go_wp2
    exact bodyPost_ret (v := .tuple #[.int .i64 (offN (stAt m.states j)), .int .i64 0]) (by simp [results, Tryz.results44, go_sem]) rfl ⟨by rw [HV.out, HSV.out], HB3.out⟩
  · have HV : Hid (offerV m x = 0) := Lib.hid (if_neg hs)
    obtain ⟨cd, hcd⟩ : ∃ cd, stC m x = cd := ⟨_, rfl⟩
    rw [hcd] at hs ⊢
    go_wp2
    exact bodyPost_ret (v := .tuple #[.int .i64 0, .int .i64 cd]) (by simp [results, Tryz.results44, go_sem]) rfl ⟨by rw [HV.out, hcd], HB.out⟩
end Go.Proofs.YtpmbijlldoiplaaGreatDoor
/- The edges of a state, as system.String writes them behind the state's number. -/
namespace Go.Proofs.YtpmbijlldoiplaaGreatDoor
open Go.RowKit Pl

theorem pack_e {w : World} {g g1 g2 o1 o2 : Nat} {t : TypeId} {x y v1 v2 : Value} (h : Whole w g t #[x, y]) (h1 : w.cell? ⟨g1, o1, none⟩ = some v1) (h2 : w.cell? ⟨g2, o2, none⟩ = some v2) :
    Whole w g t #[x, y] ∧ w.cell? ⟨g, 0, none⟩ = some x ∧ w.cell? ⟨g, 1, none⟩ = some y ∧ w.cell? ⟨g1, o1, none⟩ = some v1 ∧ w.cell? ⟨g2, o2, none⟩ = some v2 := ⟨h, h.cell 0, h.cell 1, h1, h2⟩
theorem up_bld {W w' : World} {B b : Nat} {l : List UInt8} (hb : Below W.heap.size W w') (h : Bld B b l W) : Bld B b l w' := h.up hb
theorem bld_lt {W : World} {B b : Nat} {l : List UInt8} (h : Bld B b l W) : b < W.heap.size := by
  rcases h with h | h
  · exact h.lt
  · exact h.lt
theorem below_two {a b c : World} (h : Below a.heap.size a b) (k : Below b.heap.size b c) : Below a.heap.size a c := h.trans (k.mono h.size)
theorem bstr_any (B b : Nat) (l : List UInt8) (w : World) (h : Bld B b l w) (hB : B ≤ w.heap.size) :
    Calls Tryz.prog 70 #[.pointer (some ⟨b, 0, none⟩)] w fun e w' => e = .returned (.string (mk l)) ∧ Below B w w' := Tryz.Builder_String_any B b l w h hB
/-- the first y edges of a state -/
def lineS (acts : List ByteArray) (l : List Edg) (y : Nat) : List UInt8 := (l.take y).flatMap (edgeS acts)
theorem lineS_zero (acts : List ByteArray) (l : List Edg) : lineS acts l 0 = [] := rfl
theorem lineS_all (acts : List ByteArray) (l : List Edg) : lineS acts l l.length = l.flatMap (edgeS acts) := by unfold lineS; rw [List.take_length]
theorem lineS_next (acts : List ByteArray) (l : List Edg) (y : Nat) (h : y < l.length) : lineS acts l (y + 1) = lineS acts l y ++ edgeS acts (edAt l y) := by
  unfold lineS
  rw [take_next l y (0, 0) h, List.flatMap_append, List.flatMap_singleton]
  rfl
theorem lineS_len {m : Syst} (h : sysB m = true) {x : Nat} (hx : x < m.states.length) (y : Nat) : (lineS m.acts (stAt m.states x) y).length ≤ 17200000 := by
  have hs := (sysB_iff m).1 h
  have h1 := flat_len hs.1 (ns := m.states.length) (by omega) ((stAt m.states x).take y) (fun e he => row_ok h hx e (List.mem_of_mem_take he))
  have h3 := total_take m.states x hx
  have h4 := total_take_le m.states (x + 1)
  have h5 : ((stAt m.states x).take y).length ≤ (stAt m.states x).length := by rw [List.length_take]; omega
  unfold lineS
  omega
theorem bld_fresh {w : World} {B : Nat} (h : Whole w B 117 #[.pointer none, .slice none 0 0]) : Bld B B [] w := Or.inl ⟨Nat.le_refl _, .slice none 0 0, h, World.ownsRow_nil _ _ _ _, by simp [Value.ownBlock]⟩

set_option maxRecDepth 100000 in
set_option maxHeartbeats 4000000 in
theorem line_any {w : World} {a : Option Addr} {n c : Nat} {b : Option Addr} {k d : Nat} {m : Syst} {g x ni ci : Nat} {ai : Option Addr} (E : Env w) (A : SysArg w a n c b k d m) (hv : sysB m = true)
    (hg : Whole w g 25 #[.slice a n c, .slice b k d]) (hx : x < m.states.length) (hE : EdgeArg w ai ni ci (stAt m.states x)) :
    Calls Tryz.prog 96 #[.slice ai ni ci, .pointer (some ⟨g, 0, none⟩)] w fun e w' => e = .returned (.string (mk ((stAt m.states x).flatMap (edgeS m.acts)))) ∧ Below w.heap.size w w' := by
  have HA := Lib.hid A
  have HE := Lib.hid E
  have HS := Lib.hid hv
  have HX := Lib.hid hx
  have HEd := Lib.hid hE
  have hn8 : n ≤ 8 := by have := ((actsB_iff m.acts).1 ((sysB_iff m).1 hv).1).1; have := A.acts.len; omega
  have hk5 : k ≤ 5000 := by have := ((sysB_iff m).1 hv).2.2.1; have := A.len; omega
  have hni : ni ≤ 400000 := by
    have h3 := hE.len
    have h4 := total_take m.states x hx
    have h5 := total_take_le m.states (x + 1)
    have := ((sysB_iff m).1 hv).2.2.2.2
    omega
  have q0 := hg.cell 0
  simp only [List.getElem?_toArray, List.getElem?_cons_zero] at q0
  have hgl := hg.lt
  have b0 := bld_fresh (Whole.new w 117 #[.pointer none, .slice none 0 0])
  have hB1 : Below w.heap.size w (w.alloc (.cells #[.pointer none, .slice none 0 0] 117)) := (Below.refl _ w).alloc (Nat.le_refl _) _
  have HB0 := Lib.hid b0
  have HB1 := Lib.hid hB1
  clear E A hv hg hx hE b0 hB1
  go_enter Tryz.func96, Tryz.ntmps96
  go_wp2
  go_loopw [6, 9] (fun _ i wr => ∃ y : Nat, y ≤ ni ∧ i = .int .i64 y ∧ Bld w.heap.size w.heap.size (lineS m.acts (stAt m.states x) y) wr ∧ Below w.heap.size w wr) (fun _ i _ => ni - (intOf i).toNat)
  case atStart => exact ⟨0, Nat.zero_le _, rfl, HB0.out, HB1.out⟩
  case round =>
    obtain ⟨y, hy, rfl, hBy, hby⟩ := hrel
    have HBy := Lib.hid hBy
    have Hby := Lib.hid hby
    have hzy := hby.size
    have o1 : wr.cell? ⟨g, 0, none⟩ = some (.slice a n c) := (hby.cell hgl).trans q0
    clear hBy hby
    by_cases hlt3 : y < ni
    · obtain ⟨be, oe, rfl, d1, d2⟩ := (HEd.out.cells.below Hby.out) y (by have := HEd.out.len; omega)
      have hok : okE m.acts.length m.states.length (edAt (stAt m.states x) y) = true := by
        have h3 := (edgesB_iff _ _ _).1 (((sysB_iff m).1 HS.out).2.2.2.1 x HX.out) y (by have := HEd.out.len; omega)
        unfold edgeB at h3
        rw [Bool.and_eq_true] at h3
        exact h3.1
      have hok2 := (okE_iff _ _ _).1 hok
      obtain ⟨u, hu⟩ := Int.eq_ofNat_of_zero_le hok2.1
      obtain ⟨v, hv⟩ := Int.eq_ofNat_of_zero_le hok2.2.2.1
      have hu8 : u < n := by have := HA.out.acts.len; omega
      have hvk : v < k := by have := HA.out.len; omega
      obtain ⟨ba, oa, rfl, a0⟩ := HA.out.acts.cells u (by have := HA.out.acts.len; omega)
      obtain ⟨z, HZ⟩ : ∃ z, Hid (at_ m.acts u = z) := ⟨_, Lib.hid rfl⟩
      change w.cell? _ = some (.string (at_ m.acts u)) at a0
      rw [HZ.out] at a0
      have a1 := (Hby.out.cell (lt_of_cell a0)).trans a0
      rw [hu] at d1
      rw [hv] at d2
      have hzs : z.size ≤ 20 := by
        have := nm_len ((sysB_iff m).1 HS.out).1 (k := u) (by have := HA.out.acts.len; omega)
        rw [HZ.out] at this
        rw [Lib.size_eq]; exact this
      obtain ⟨D2, HD2⟩ : ∃ D, Hid (mk (Lib.decDigits v) = D) := ⟨_, Lib.hid rfl⟩
      have hD2 : D2.size ≤ 21 := by rw [← HD2.out, mk_size']; exact dec_length v (by omega)
      have hsp : (⟨#[32]⟩ : ByteArray).size = 1 := rfl
      have HN2 : Hid (lineS m.acts (stAt m.states x) y ++ ((⟨#[32]⟩ : ByteArray) ++ z ++ (⟨#[32]⟩ : ByteArray) ++ D2).data.toList = lineS m.acts (stAt m.states x) (y + 1)) := Lib.hid (by
        rw [lineS_next m.acts _ y (by have := HEd.out.len; omega)]
        unfold edgeS nmS
        rw [hu, hv, ← HD2.out]
        simp only [Int.toNat_natCast]
        rw [HZ.out]
        simp [ByteArray.data_append, mk])
      have HL2 := Lib.hid (lineS_len HS.out HX.out y)
      have HBo := Lib.hid (fun o : Obj => HBy.out.up ((Below.refl _ wr).alloc (Nat.le_refl _) o))
      have HEr := Lib.hid (HE.out.below Hby.out)
      have hu0 : (0 : Int) ≤ (u : Int) := by omega
      have hu1 : (u : Int) < n := by omega
      have zz0 : g < wr.heap.size := lt_of_cell o1
      have zz1 : ba < wr.heap.size := lt_of_cell a1
      have zz2 : ba < w.heap.size := lt_of_cell a0
      have zz5 : w.heap.size < wr.heap.size := bld_lt HBy.out
      clear hok hok2 hu hv a0
      go_wp2
      have hadd1 : ¬ 9223372036854775807 < (⟨#[32]⟩ : ByteArray).size + z.size := by omega
      have hadd2 : ¬ 9223372036854775807 < ((⟨#[32]⟩ : ByteArray) ++ z).size + (⟨#[32]⟩ : ByteArray).size := by rw [ByteArray.size_append]; omega
      have hadd3 : ¬ 9223372036854775807 < ((⟨#[32]⟩ : ByteArray) ++ z ++ (⟨#[32]⟩ : ByteArray)).size + D2.size := by rw [ByteArray.size_append, ByteArray.size_append]; omega
      have hadd4 : ¬ 9223372036854775807 < 1 + z.size := by omega
      have hadd5 : ¬ 9223372036854775807 < 1 + z.size + 1 := by omega
      have hadd6 : ¬ 9223372036854775807 < 1 + z.size + 1 + D2.size := by omega
      have hadd7 : ¬ 9223372036854775807 < ((⟨#[32]⟩ : ByteArray) ++ z).size + 1 := by rw [ByteArray.size_append]; omega
      go_region_held3 (fun w' => Whole w' wr.heap.size 85 #[.int .i64 u, .int .i64 v] ∧ w'.cell? ⟨wr.heap.size, 0, none⟩ = some (.int .i64 u) ∧ w'.cell? ⟨wr.heap.size, 1, none⟩ = some (.int .i64 v) ∧ w'.cell? ⟨g, 0, none⟩ = some (.slice (some ⟨ba, oa, none⟩) n c) ∧ w'.cell? ⟨ba, oa + u, none⟩ = some (.string z))
        ((refine pack_e ?_ ?_ ?_ <;> first | assumption | exact Whole.new _ _ _ | go_keep))
        (first
          | (go_at_call 69; (refine (itoa_any v (by omega) _ (HEr.out.below ?_)).mono ?_; (first | exact ((Below.refl _ _).alloc (Nat.le_refl _) _).drew | exact ((Below.refl _ _).alloc (Nat.le_refl _) _)); rw [HD2.out]; rintro e wJ ⟨rfl, hbJ⟩; have kI0 := up_whole hbJ (show Whole _ wr.heap.size 85 #[.int .i64 u, .int .i64 v] from Whole.new wr _ _); have kI1 := up_cell (p := ⟨g, 0, none⟩) hbJ (cell_new o1 _); have kI2 := up_cell (p := ⟨ba, oa + u, none⟩) hbJ (cell_new a1 _); have kIz := hbJ.size))
          | (go_at_call 68; (refine (write_any w.heap.size w.heap.size (lineS m.acts (stAt m.states x) y) ((⟨#[32]⟩ : ByteArray) ++ z ++ (⟨#[32]⟩ : ByteArray) ++ D2) _ (up_bld hbJ (HBo.out (.cells #[.int .i64 u, .int .i64 v] 85))) ?_ ?_).mono ?_; (simp only [ByteArray.size_append]; have := HL2.out; omega); (simp at kIz; omega); rw [HN2.out]; rintro e wK ⟨rfl, hBK, hbK, hkK⟩; have kK0 := hkK wr.heap.size _ _ (by omega) (by decide) kI0; have kK1 := (hbK.cell (p := ⟨g, 0, none⟩) hgl).trans kI1; have kK2 := (hbK.cell (p := ⟨ba, oa + u, none⟩) zz2).trans kI2)))
      go_wp2
      go_roundw
      case rel =>
        have hbw : Below wr.heap.size wr wJ := by
          first
            | exact below_two ((Below.refl _ wr).alloc (Nat.le_refl _) (.cells #[.int .i64 u, .int .i64 v] 85)) hbJ
            | exact below_two ((Below.refl _ wr).alloc (Nat.le_refl _) (.cells #[.int .i64 u, .int .i64 v] 85)).drew hbJ
        exact ⟨y + 1, by omega, by go_num, hBK, (Hby.out.trans (hbw.mono hzy)).trans hbK⟩
      case measure => simp [intOf]; omega
    · have HN3 : Hid (lineS m.acts (stAt m.states x) y = (stAt m.states x).flatMap (edgeS m.acts)) := Lib.hid (by
        have h3 : y = (stAt m.states x).length := by have := HEd.out.len; omega
        rw [h3]; exact lineS_all _ _)
      have hBe := HBy.out
      rw [HN3.out] at hBe
      have HSt := Lib.hid (bstr_any w.heap.size w.heap.size _ wr hBe hzy)
      clear hBe
      go_wp2_with fail
      refine HSt.out.mono ?_
      rintro e w7 ⟨rfl, hb7⟩
      go_wp2
      go_ret
      exact ⟨rfl, Hby.out.trans hb7⟩
end Go.Proofs.YtpmbijlldoiplaaGreatDoor
/- Plain facts: the string of a specification, and how it is read back; nothing here is about a program. -/
namespace Go.Proofs.YtpmbijlldoiplaaGreatDoor.Pl
open Go Go.Lib

/-! ### strings of objects, whatever their kind -/
def blanks (ws : List (List UInt8)) : List UInt8 := ws.flatMap fun x => 32 :: x
theorem blanks_app (a b : List (List UInt8)) : blanks (a ++ b) = blanks a ++ blanks b := by simp [blanks]
def headL (kw : List UInt8) (acts : List ByteArray) : List UInt8 := kw ++ acts.flatMap (fun a => [32] ++ a.data.toList)
theorem headL_join (kw : List UInt8) (acts : List ByteArray) : headL kw acts = join (kw :: acts.map (·.data.toList)) [32] := by
  unfold headL
  rw [join_flat, List.flatMap_map]
  rfl
def lineK (i : Nat) (w : List (List UInt8)) : List UInt8 := decDigits i ++ [58] ++ blanks w
theorem lineK_join (i : Nat) (w : List (List UInt8)) : lineK i w = join ((decDigits i ++ [58]) :: w) [32] := by
  unfold lineK blanks
  rw [join_flat]
/-- the string of the first k states -/
def objK (kw : List UInt8) (acts : List ByteArray) (ws : List (List (List UInt8))) (k : Nat) : List UInt8 := headL kw acts ++ [10] ++ (List.range k).flatMap (fun i => lineK i (ws.getD i []) ++ [10])
def objS (kw : List UInt8) (acts : List ByteArray) (ws : List (List (List UInt8))) : List UInt8 := objK kw acts ws ws.length
theorem objK_next (kw : List UInt8) (acts : List ByteArray) (ws : List (List (List UInt8))) (k : Nat) : objK kw acts ws (k + 1) = objK kw acts ws k ++ (lineK k (ws.getD k []) ++ [10]) := by
  unfold objK
  rw [List.range_succ, List.flatMap_append, List.flatMap_singleton, ← List.append_assoc]
def linesK (kw : List UInt8) (acts : List ByteArray) (ws : List (List (List UInt8))) : List (List UInt8) := headL kw acts :: (List.range ws.length).map fun i => lineK i (ws.getD i [])
theorem shift_nl : ∀ (l : List (List UInt8)) (x : List UInt8), x ++ [10] ++ l.flatMap (fun y => y ++ [10]) = x ++ l.flatMap (fun y => 10 :: y) ++ [10]
  | [], x => by simp
  | y :: l, x => by
    have := shift_nl l (x ++ [10] ++ y)
    simp only [List.flatMap_cons, List.append_assoc, List.cons_append, List.nil_append] at this ⊢
    rw [this]
theorem objS_lines (kw : List UInt8) (acts : List ByteArray) (ws : List (List (List UInt8))) : objS kw acts ws = join (linesK kw acts ws) [10] ++ [10] := by
  unfold objS objK linesK
  rw [join_flat, ← shift_nl, List.flatMap_map]
theorem mkd_map (acts : List ByteArray) : (acts.map (·.data.toList)).map mk = acts := by
  rw [List.map_map]
  have : (mk ∘ fun x : ByteArray => x.data.toList) = id := by funext x; exact mk_of x
  rw [this, List.map_id]
theorem head_noK {kw : List UInt8} {acts : List ByteArray} (ha : actsB acts = true) (c : UInt8) (hc : nmB (c.toNat : Int) = false) (hs : c ∉ kw) : ∀ x ∈ kw :: acts.map (·.data.toList), c ∉ x := by
  intro x hx
  rcases List.mem_cons.1 hx with rfl | hx
  · exact hs
  · obtain ⟨a, h1, rfl⟩ := List.mem_map.1 hx
    obtain ⟨k, hk, rfl⟩ := List.getElem_of_mem h1
    have := acts_name ha hk
    unfold at_ at this
    rw [List.getD_eq_getElem?_getD, List.getElem?_eq_getElem hk] at this
    exact name_no this c hc
theorem num_no (c : UInt8) (h : c.toNat < 48 ∨ 57 < c.toNat) (h58 : c ≠ 58) (i : Nat) : c ∉ decDigits i ++ [58] := fun hm => by
  rcases List.mem_append.1 hm with h1 | h1
  · exact dec_no c h i h1
  · exact h58 (by simpa using h1)
theorem head_backK {kw : List UInt8} {acts : List ByteArray} (ha : actsB acts = true) (h32 : 32 ∉ kw) : headK kw (headL kw acts) = some acts := by
  unfold headK
  rw [headL_join, sp_join 32 _ (by simp) (head_noK ha 32 (by decide) h32)]
  simp only [mkd_map, ha, and_self, if_true]
theorem row_backK {R : Type} {rp : List ByteArray → List (List UInt8) → Option R} {acts : List ByteArray} {i : Nat} {w : List (List UInt8)} (hw : ∀ x ∈ w, (32 : UInt8) ∉ x) : rowK rp acts i (lineK i w) = rp acts w := by
  unfold rowK
  rw [lineK_join, sp_join 32 _ (by simp) (fun x hx => by
    rcases List.mem_cons.1 hx with rfl | hx
    · exact num_no 32 (by decide) (by decide) i
    · exact hw x hx)]
  show (if decDigits i ++ [58] = decDigits i ++ [58] then rp acts w else none) = _
  rw [if_pos rfl]
theorem join_noK (xs : List (List UInt8)) (hxs : ∀ x ∈ xs, (10 : UInt8) ∉ x) : (10 : UInt8) ∉ join xs [32] := by
  cases xs with
  | nil => simp [join_nil]
  | cons x r =>
    rw [join_flat]
    intro hm
    rcases List.mem_append.1 hm with h1 | h1
    · exact hxs x (by simp) h1
    · obtain ⟨y, hy, h2⟩ := List.mem_flatMap.1 h1
      rcases List.mem_cons.1 h2 with h3 | h3
      · cases h3
      · exact hxs y (by simp [hy]) h3
theorem lines_noK {kw : List UInt8} {acts : List ByteArray} {ws : List (List (List UInt8))} (ha : actsB acts = true) (hkw : (10 : UInt8) ∉ kw) (hw : ∀ w ∈ ws, ∀ x ∈ w, (10 : UInt8) ∉ x) : ∀ x ∈ linesK kw acts ws, (10 : UInt8) ∉ x := by
  intro x hx
  unfold linesK at hx
  rcases List.mem_cons.1 hx with rfl | hx
  · rw [headL_join]
    exact join_noK _ (head_noK ha 10 (by decide) hkw)
  · obtain ⟨i, hi, rfl⟩ := List.mem_map.1 hx
    rw [List.mem_range] at hi
    rw [lineK_join]
    refine join_noK _ (fun y hy => ?_)
    rcases List.mem_cons.1 hy with rfl | hy
    · exact num_no 10 (by decide) (by decide) i
    · rw [List.getD_eq_getElem?_getD, List.getElem?_eq_getElem hi] at hy
      exact hw _ (List.getElem_mem hi) y hy
theorem lines_lastK {kw : List UInt8} {acts : List ByteArray} {ws : List (List (List UInt8))} (hk : kw ≠ []) (hno : ∀ x ∈ linesK kw acts ws, (10 : UInt8) ∉ x) : ∃ y z, join (linesK kw acts ws) [10] = y ++ z ∧ z ≠ [] ∧ (10 : UInt8) ∉ z := by
  have hne : ∀ x ∈ linesK kw acts ws, x ≠ [] := by
    intro x hx
    unfold linesK at hx
    rcases List.mem_cons.1 hx with rfl | hx
    · unfold headL; intro e; exact hk (List.append_eq_nil_iff.1 e).1
    · obtain ⟨i, _, rfl⟩ := List.mem_map.1 hx
      simp [lineK]
  cases hl : linesK kw acts ws with
  | nil => simp [linesK] at hl
  | cons x r =>
    rw [hl] at hno hne
    rw [join_flat]
    rcases List.eq_nil_or_concat r with rfl | ⟨r', z, rfl⟩
    · exact ⟨[], x, by simp, hne x (by simp), hno x (by simp)⟩
    · refine ⟨x ++ r'.flatMap (fun y => 10 :: y) ++ [10], z, by simp, hne z (by simp), hno z (by simp)⟩
/-- what is printed is read back -/
theorem textK_join {R : Type} {kw : List UInt8} {rp : List ByteArray → List (List UInt8) → Option R} {acts : List ByteArray} {ws : List (List (List UInt8))} {ss : List R} {s : List UInt8} (ha : actsB acts = true) (h32 : (32 : UInt8) ∉ kw) (h10 : (10 : UInt8) ∉ kw)
    (hw : ∀ w ∈ ws, ∀ x ∈ w, (32 : UInt8) ∉ x ∧ (10 : UInt8) ∉ x) (hl : ss.length = ws.length) (hr : ∀ i, i < ws.length → ∃ x, ss[i]? = some x ∧ rp acts (ws.getD i []) = some x)
    (hs : s.length ≤ 60000) (hc : cut1 s = join (linesK kw acts ws) [10]) : textK kw rp s = (acts, ss, 0) := by
  unfold textK
  rw [if_neg (by omega), hc, sp_join 10 _ (by simp [linesK]) (lines_noK ha h10 (fun w h x hx => (hw w h x hx).2))]
  show (match headK kw (headL kw acts) with | none => ([], [], (11 : Int)) | some acts => _) = _
  rw [head_backK ha h32]
  show (match rowsK rp acts 0 ((List.range ws.length).map fun i => lineK i (ws.getD i [])) with | none => ([], [], (11 : Int)) | some ss => (acts, ss, 0)) = _
  rw [rowsK_good _ 0 ss (by simp [hl]) (fun k hk => by
    rw [List.length_map, List.length_range] at hk
    obtain ⟨x, h1, h2⟩ := hr k hk
    refine ⟨x, h1, ?_⟩
    have e : ((List.range ws.length).map fun i => lineK i (ws.getD i [])).getD k [] = lineK k (ws.getD k []) := by
      rw [List.getD_eq_getElem?_getD, List.getElem?_map, List.getElem?_range hk]; rfl
    rw [e, Nat.zero_add, row_backK, h2]
    intro y hy
    rw [List.getD_eq_getElem?_getD, List.getElem?_eq_getElem hk] at hy
    exact (hw _ (List.getElem_mem hk) y hy).1)]
theorem textK_back {R : Type} {kw : List UInt8} {rp : List ByteArray → List (List UInt8) → Option R} {acts : List ByteArray} {ws : List (List (List UInt8))} {ss : List R} (ha : actsB acts = true) (hk : kw ≠ []) (h32 : (32 : UInt8) ∉ kw) (h10 : (10 : UInt8) ∉ kw)
    (hw : ∀ w ∈ ws, ∀ x ∈ w, (32 : UInt8) ∉ x ∧ (10 : UInt8) ∉ x) (hl : ss.length = ws.length) (hr : ∀ i, i < ws.length → ∃ x, ss[i]? = some x ∧ rp acts (ws.getD i []) = some x)
    (hs : (objS kw acts ws).length ≤ 60000) : textK kw rp (objS kw acts ws) = (acts, ss, 0) ∧ textK kw rp ((objS kw acts ws).take ((objS kw acts ws).length - 1)) = (acts, ss, 0) := by
  refine ⟨textK_join ha h32 h10 hw hl hr hs (by rw [objS_lines, trim_snoc]), ?_⟩
  obtain ⟨y, z, e, hz, hno⟩ := lines_lastK (acts := acts) (ws := ws) hk (lines_noK ha h10 (fun w h x hx => (hw w h x hx).2))
  have e2 : (objS kw acts ws).take ((objS kw acts ws).length - 1) = join (linesK kw acts ws) [10] := by rw [objS_lines]; simp
  rw [e2]
  rw [objS_lines] at hs
  refine textK_join ha h32 h10 hw hl hr (by simp at hs; omega) ?_
  rw [e, cut_other y hz hno]

/-! ### specifications -/
def bSpec : List UInt8 := [115, 112, 101, 99]
def bArrow : List UInt8 := [45, 62]
def accW (acts : List ByteArray) (l : List Int) : List (List UInt8) := l.map fun x => setS acts x.toNat
/-- an action that leads on, and where -/
def toW (acts : List ByteArray) (next : List Int) (a : Nat) : List (List UInt8) := if next.getD a 0 = -1 then [] else [(at_ acts a).data.toList, decDigits (next.getD a 0).toNat]
/-- the first j actions that lead on -/
def nxW (acts : List ByteArray) (next : List Int) (j : Nat) : List (List UInt8) := (List.range j).flatMap (toW acts next)
theorem nxW_next (acts : List ByteArray) (next : List Int) (j : Nat) : nxW acts next (j + 1) = nxW acts next j ++ toW acts next j := by
  unfold nxW
  rw [List.range_succ, List.flatMap_append, List.flatMap_singleton]
def steW (acts : List ByteArray) (t : Ste) : List (List UInt8) := accW acts t.1 ++ bArrow :: nxW acts t.2 t.2.length
def strSp (s : Spc) : List UInt8 := objS bSpec s.acts (s.states.map (steW s.acts))
def noSpc : Spc := ⟨[], []⟩
/-- what is read so far of a state -/
structure Rd where
  part : Nat
  last : Int
  acc : List Int
  next : List Int
def stepR (acts : List ByteArray) (r : Rd) (x : List UInt8) : Option Rd :=
  if r.part = 0 then (if x = bArrow then some ⟨1, r.last, r.acc, r.next⟩ else match parseO acts x with | none => none | some y => some ⟨0, r.last, r.acc ++ [(y : Int)], r.next⟩)
  else if r.part = 1 then (if idxOfS acts (mk x) < 0 ∨ idxOfS acts (mk x) ≤ r.last then none else some ⟨2, idxOfS acts (mk x), r.acc, r.next⟩)
  else match numV x with | none => none | some t => some ⟨1, r.last, r.acc, r.next.set r.last.toNat t⟩
def foldR (acts : List ByteArray) (r : Option Rd) (ws : List (List UInt8)) : Option Rd := ws.foldl (fun q x => q.bind fun r => stepR acts r x) r
theorem foldR_cons (acts : List ByteArray) (r : Rd) (x : List UInt8) (ws : List (List UInt8)) : foldR acts (some r) (x :: ws) = foldR acts (stepR acts r x) ws := rfl
theorem foldR_app (acts : List ByteArray) (r : Option Rd) (a b : List (List UInt8)) : foldR acts r (a ++ b) = foldR acts (foldR acts r a) b := by simp [foldR]
theorem foldR_none (acts : List ByteArray) : ∀ ws : List (List UInt8), foldR acts none ws = none
  | [] => rfl
  | _ :: ws => foldR_none acts ws
def rd0 (acts : List ByteArray) : Rd := ⟨0, -1, [], List.replicate acts.length (-1)⟩
def rdO (q : Option Rd) : Option Ste := match q with | none => none | some r => if r.part = 1 then some (r.acc, r.next) else none
/-- the words of a state behind its number -/
def steO (acts : List ByteArray) (ws : List (List UInt8)) : Option Ste := rdO (foldR acts (some (rd0 acts)) ws)
/-- what a string is read as -/
def parseSp (s : List UInt8) : Spc × Int :=
  if (textK bSpec steO s).2.2 = 0 then (if spcB ⟨(textK bSpec steO s).1, (textK bSpec steO s).2.1⟩ = true then (⟨(textK bSpec steO s).1, (textK bSpec steO s).2.1⟩, 0) else (noSpc, 30)) else (noSpc, (textK bSpec steO s).2.2)
theorem parseSp_bad {s : List UInt8} {c : Int} (h : textK bSpec steO s = ([], [], c)) (hc : c ≠ 0) : parseSp s = (noSpc, c) := by
  unfold parseSp; rw [h, if_neg hc]
theorem parseSp_no {s : List UInt8} {acts : List ByteArray} {ss : List Ste} (h : textK bSpec steO s = (acts, ss, 0)) (hc : spcB ⟨acts, ss⟩ = false) : parseSp s = (noSpc, 30) := by
  unfold parseSp; rw [h, if_pos rfl, if_neg (by rw [hc]; decide)]
theorem parseSp_yes {s : List UInt8} {acts : List ByteArray} {ss : List Ste} (h : textK bSpec steO s = (acts, ss, 0)) (hc : spcB ⟨acts, ss⟩ = true) : parseSp s = (⟨acts, ss⟩, 0) := by
  unfold parseSp; rw [h, if_pos rfl, if_pos hc]
theorem setS_arrow (acts : List ByteArray) (y : Nat) : setS acts y ≠ bArrow := by
  intro e
  have := congrArg List.head? e
  simp [setS, bArrow] at this
theorem fold_acc {acts : List ByteArray} (ha : actsB acts = true) : ∀ (l : List Int) (acc nx : List Int) (p : Int), (∀ x ∈ l, 0 ≤ x ∧ x.toNat < 2 ^ acts.length) →
    foldR acts (some ⟨0, p, acc, nx⟩) (accW acts l) = some ⟨0, p, acc ++ l, nx⟩
  | [], acc, nx, p, _ => by simp [accW, foldR]
  | x :: l, acc, nx, p, h => by
    have h1 := h x (by simp)
    have ih := fold_acc ha l (acc ++ [x]) nx p (fun y hy => h y (by simp [hy]))
    have e : accW acts (x :: l) = setS acts x.toNat :: accW acts l := rfl
    have hp : parseO acts (setS acts x.toNat) = some x.toNat := (parse_iff ha _ _).2 ⟨h1.2, rfl⟩
    have hs : stepR acts ⟨0, p, acc, nx⟩ (setS acts x.toNat) = some ⟨0, p, acc ++ [x], nx⟩ := by
      unfold stepR
      rw [if_pos rfl, if_neg (setS_arrow _ _), hp]
      show some (Rd.mk 0 p (acc ++ [(x.toNat : Int)]) nx) = _
      rw [Int.toNat_of_nonneg h1.1]
    rw [e, foldR_cons, hs, ih]
    simp
theorem fold_next {acts : List ByteArray} (ha : actsB acts = true) {next : List Int} (hn : next.length = acts.length) (hr : ∀ j, j < next.length → -1 ≤ next.getD j 0 ∧ next.getD j 0 ≤ 9223372036854775807) (acc : List Int) : ∀ j, j ≤ next.length →
    ∃ p, p < (j : Int) ∧ foldR acts (some ⟨1, -1, acc, List.replicate acts.length (-1)⟩) (nxW acts next j) = some ⟨1, p, acc, next.take j ++ List.replicate (acts.length - j) (-1)⟩
  | 0, _ => ⟨-1, by omega, by simp [nxW, foldR]⟩
  | j + 1, h => by
    obtain ⟨p, hp, ih⟩ := fold_next ha hn hr acc j (by omega)
    have hj := hr j (by omega)
    have et : next.take (j + 1) = next.take j ++ [next.getD j 0] := take_next next j 0 (by omega)
    have er : List.replicate (acts.length - j) (-1 : Int) = -1 :: List.replicate (acts.length - (j + 1)) (-1) := by
      rw [show acts.length - j = (acts.length - (j + 1)) + 1 by omega, List.replicate_succ]
    rw [nxW_next, foldR_app, ih]
    unfold toW
    by_cases e : next.getD j 0 = -1
    · rw [if_pos e]
      refine ⟨p, by omega, ?_⟩
      show some _ = some _
      rw [et, er, e]
      simp
    · rw [if_neg e]
      refine ⟨j, by omega, ?_⟩
      have hi : idxOfS acts (mk (at_ acts j).data.toList) = j := by rw [mk_of]; exact acts_idx ha (by omega)
      have h1 : stepR acts ⟨1, p, acc, next.take j ++ List.replicate (acts.length - j) (-1)⟩ (at_ acts j).data.toList = some ⟨2, j, acc, next.take j ++ List.replicate (acts.length - j) (-1)⟩ := by
        unfold stepR
        rw [if_neg (show ¬ (1 : Nat) = 0 by decide), if_pos rfl, hi, if_neg (show ¬ ((j : Int) < 0 ∨ (j : Int) ≤ p) by omega)]
      have h2 : stepR acts ⟨2, j, acc, next.take j ++ List.replicate (acts.length - j) (-1)⟩ (decDigits (next.getD j 0).toNat) = some ⟨1, j, acc, next.take (j + 1) ++ List.replicate (acts.length - (j + 1)) (-1)⟩ := by
        unfold stepR
        rw [if_neg (show ¬ (2 : Nat) = 0 by decide), if_neg (show ¬ (2 : Nat) = 1 by decide), numV_dec _ (by omega)]
        show some (Rd.mk 1 j acc ((next.take j ++ List.replicate (acts.length - j) (-1)).set j (((next.getD j 0).toNat : Nat) : Int))) = _
        rw [Int.toNat_of_nonneg (by omega), et, er, List.set_append_right _ _ (by rw [List.length_take]; omega)]
        rw [List.length_take, Nat.min_eq_left (by omega), Nat.sub_self, List.set_cons_zero]
        simp
      rw [foldR_cons, h1, foldR_cons, h2]
      rfl
theorem ste_back {acts : List ByteArray} (ha : actsB acts = true) {t : Ste} (hn : t.2.length = acts.length) (hx : ∀ x ∈ t.1, 0 ≤ x ∧ x.toNat < 2 ^ acts.length) (hr : ∀ j, j < t.2.length → -1 ≤ t.2.getD j 0 ∧ t.2.getD j 0 ≤ 9223372036854775807) : steO acts (steW acts t) = some t := by
  unfold steO steW rd0
  rw [foldR_app, fold_acc ha t.1 [] _ (-1) hx, List.nil_append, foldR_cons]
  have h1 : stepR acts ⟨0, -1, t.1, List.replicate acts.length (-1)⟩ bArrow = some ⟨1, -1, t.1, List.replicate acts.length (-1)⟩ := by
    unfold stepR
    rw [if_pos rfl, if_pos rfl]
  obtain ⟨p, _, h2⟩ := fold_next ha hn hr t.1 t.2.length (Nat.le_refl _)
  rw [h1, h2, List.take_length, hn, Nat.sub_self]
  simp [rdO]
theorem lt_pow_of_bits {x n : Nat} (hx : x < 2 ^ 64) (h : ∀ a, a < 64 → x.testBit a = true → a < n) : x < 2 ^ n := by
  refine Nat.lt_pow_two_of_testBit x (fun i hi => ?_)
  rcases Nat.lt_or_ge i 64 with h1 | h1
  · rw [Bool.eq_false_iff]
    intro hb
    have := h i h1 hb
    omega
  · exact Nat.testBit_lt_two_pow (Nat.lt_of_lt_of_le hx (Nat.pow_le_pow_right (by decide) h1))
/-- what is known of a state of a valid specification -/
theorem ste_facts {na ns : Nat} {t : Ste} (h : steB na ns t = true) (hx : ∀ x ∈ t.1, x ≤ 9223372036854775807) :
    t.2.length = na ∧ (∀ x ∈ t.1, 0 ≤ x ∧ x.toNat < 2 ^ na) ∧ (∀ j, j < t.2.length → -1 ≤ t.2.getD j 0 ∧ t.2.getD j 0 < ns) := by
  unfold steB at h
  rw [Bool.and_eq_true, nextB_iff, accB_iff] at h
  obtain ⟨⟨h1, h2⟩, h3⟩ := h
  refine ⟨h1, fun x hm => ?_, fun j hj => (okNext_iff _ _).1 (h2 j hj)⟩
  obtain ⟨i, hi, e⟩ := List.getElem_of_mem hm
  have h4 := (h3 i hi).1
  rw [List.getD_eq_getElem?_getD, List.getElem?_eq_getElem hi, Option.getD_some, e, okSet_iff] at h4
  refine ⟨h4.1, lt_pow_of_bits (by have := hx x hm; omega) (fun a ha hb => ?_)⟩
  have := h4.2 a ha hb
  unfold leadP at this
  rw [Bool.and_eq_true, decide_eq_true_eq] at this
  omega
theorem set_no {acts : List ByteArray} (ha : actsB acts = true) (y : Nat) (hy : y < 2 ^ acts.length) (c : UInt8) (hc : nmB (c.toNat : Int) = false) (h1 : c ≠ 123) (h2 : c ≠ 125) (h3 : c ≠ 44) : c ∉ setS acts y := by
  unfold setS
  intro hm
  rw [List.mem_append, List.mem_append] at hm
  rcases hm with (hm | hm) | hm
  · exact h1 (by simpa using hm)
  · have hall : ∀ x ∈ (memL y).map fun k => (at_ acts k).data.toList, c ∉ x := fun x hx => by
      obtain ⟨k, hk, rfl⟩ := List.mem_map.1 hx
      exact name_no (acts_name ha ((memL_inc hy).1 k hk).2) c hc
    revert hm hall
    generalize (memL y).map (fun k => (at_ acts k).data.toList) = xs
    intro hm hall
    cases xs with
    | nil => simp [join_nil] at hm
    | cons x r =>
      rw [join_flat] at hm
      rcases List.mem_append.1 hm with h4 | h4
      · exact hall x (by simp) h4
      · obtain ⟨z, hz, h5⟩ := List.mem_flatMap.1 h4
        rcases List.mem_cons.1 h5 with h6 | h6
        · exact h3 h6
        · exact hall z (by simp [hz]) h6
  · exact h2 (by simpa using hm)
theorem steW_no {acts : List ByteArray} (ha : actsB acts = true) {t : Ste} (hn : t.2.length = acts.length) (hx : ∀ x ∈ t.1, 0 ≤ x ∧ x.toNat < 2 ^ acts.length) (c : UInt8) (hc : nmB (c.toNat : Int) = false) (h1 : c ≠ 123) (h2 : c ≠ 125) (h3 : c ≠ 44) (h4 : c ≠ 62) (h5 : c.toNat < 48 ∨ 57 < c.toNat) :
    ∀ x ∈ steW acts t, c ∉ x := by
  intro x hm
  unfold steW at hm
  rcases List.mem_append.1 hm with hm | hm
  · obtain ⟨y, hy, rfl⟩ := List.mem_map.1 hm
    exact set_no ha _ (hx y hy).2 c hc h1 h2 h3
  · rcases List.mem_cons.1 hm with rfl | hm
    · intro h
      rcases List.mem_cons.1 h with h | h
      · subst h; revert hc; decide
      · exact h4 (by simpa using h)
    · obtain ⟨a, ha1, h⟩ := List.mem_flatMap.1 hm
      rw [List.mem_range] at ha1
      unfold toW at h
      split at h
      · cases h
      · rcases List.mem_cons.1 h with rfl | h
        · exact name_no (acts_name ha (by omega)) c hc
        · rw [List.mem_singleton] at h
          rw [h]
          exact dec_no c h5 _
/-- P3.6: what is printed is read back. -/
theorem parse_strSp {s : Spc} (h : spcB s = true) (hx : ∀ i, i < s.states.length → ∀ x ∈ (teAt s.states i).1, x ≤ 9223372036854775807) (hs : (strSp s).length ≤ 60000) :
    parseSp (strSp s) = (s, 0) ∧ parseSp ((strSp s).take ((strSp s).length - 1)) = (s, 0) := by
  obtain ⟨ha, h1, h5, he⟩ := (spcB_iff s).1 h
  have hst : ∀ i (hi : i < s.states.length), teAt s.states i = s.states[i] := fun i hi => by
    unfold teAt; rw [List.getD_eq_getElem?_getD, List.getElem?_eq_getElem hi]; rfl
  have hf := fun i hi => ste_facts (he i hi) (hx i hi)
  have hb := textK_back (kw := bSpec) (rp := steO) (acts := s.acts) (ws := s.states.map (steW s.acts)) (ss := s.states) ha (by decide) (by decide) (by decide)
    (fun w hw x hxw => by
      obtain ⟨t, ht, rfl⟩ := List.mem_map.1 hw
      obtain ⟨i, hi, e⟩ := List.getElem_of_mem ht
      rw [← hst i hi] at e
      subst e
      obtain ⟨f1, f2, f3⟩ := hf i hi
      exact ⟨steW_no ha f1 f2 32 (by decide) (by decide) (by decide) (by decide) (by decide) (by decide) x hxw, steW_no ha f1 f2 10 (by decide) (by decide) (by decide) (by decide) (by decide) (by decide) x hxw⟩)
    (by simp) (fun i hi => by
      rw [List.length_map] at hi
      obtain ⟨f1, f2, f3⟩ := hf i hi
      refine ⟨teAt s.states i, by rw [hst i hi]; exact List.getElem?_eq_getElem hi, ?_⟩
      rw [List.getD_eq_getElem?_getD, List.getElem?_map, List.getElem?_eq_getElem hi, Option.map_some, Option.getD_some, ← hst i hi]
      exact ste_back ha f1 f2 (fun j hj => by have := f3 j hj; omega))
    hs
  exact ⟨parseSp_yes hb.1 h, parseSp_yes hb.2 h⟩
end Go.Proofs.YtpmbijlldoiplaaGreatDoor.Pl
/- Plain facts: the specification of the laws' fixed calls, its string, and the two systems that are held against it; nothing here is about a program. -/
namespace Go.Proofs.YtpmbijlldoiplaaGreatDoor.Pl
open Go Go.Lib

def coinB : ByteArray := mk [99, 111, 105, 110]
def teaB : ByteArray := mk [116, 101, 97]
def vendQ : Spc := ⟨[coinB, teaB], [([1], [1, -1]), ([0, 2], [-1, 0])]⟩
def sysA : Syst := ⟨[coinB, teaB], [[(0, 1)], []]⟩
def sysN : Syst := ⟨[coinB, teaB], [[]]⟩
theorem vendQ_ok : spcB vendQ = true := by decide
theorem sysA_ok : sysB sysA = true := by decide
theorem sysN_ok : sysB sysN = true := by decide
theorem dig0 : decDigits 0 = [48] := by unfold decDigits; rfl
theorem dig1 : decDigits 1 = [49] := by unfold decDigits; rfl
theorem mem0 : memL 0 = [] := by decide
theorem mem1 : memL 1 = [0] := by decide
theorem mem2 : memL 2 = [1] := by decide
def vendL : List UInt8 := [115, 112, 101, 99, 32, 99, 111, 105, 110, 32, 116, 101, 97, 10, 48, 58, 32, 123, 99, 111, 105, 110, 125, 32, 45, 62, 32, 99, 111, 105, 110, 32, 49, 10, 49, 58, 32, 123, 125, 32, 123, 116, 101, 97, 125, 32, 45, 62, 32, 116, 101, 97, 32, 48]
theorem vendQ_str : strSp vendQ = vendL ++ [10] := by
  have e : List.range (vendQ.states.map (steW vendQ.acts)).length = [0, 1] := by decide
  have r2 : List.range 2 = [0, 1] := by decide
  have h0 : lineK 0 ((vendQ.states.map (steW vendQ.acts)).getD 0 []) = [48, 58, 32, 123, 99, 111, 105, 110, 125, 32, 45, 62, 32, 99, 111, 105, 110, 32, 49] := by
    simp [lineK, blanks, steW, accW, nxW, toW, vendQ, r2, dig0, dig1, mem1, setS, bArrow, join, at_, coinB, teaB, mk]
  have h1 : lineK 1 ((vendQ.states.map (steW vendQ.acts)).getD 1 []) = [49, 58, 32, 123, 125, 32, 123, 116, 101, 97, 125, 32, 45, 62, 32, 116, 101, 97, 32, 48] := by
    simp [lineK, blanks, steW, accW, nxW, toW, vendQ, r2, dig0, dig1, mem0, mem2, setS, bArrow, join, at_, coinB, teaB, mk]
  unfold strSp objS objK
  rw [show (vendQ.states.map (steW vendQ.acts)).length = 2 from rfl, r2]
  simp only [List.flatMap_cons, List.flatMap_nil, h0, h1]
  decide
theorem vendQ_parse : parseSp vendL = (vendQ, 0) := by
  have h := (parse_strSp vendQ_ok (fun i hi x hx => by
    have hi' : i = 0 ∨ i = 1 := by
      have : i < 2 := hi
      omega
    rcases hi' with rfl | rfl
    · have : x ∈ [(1 : Int)] := hx
      simp at this; omega
    · have : x ∈ [(0 : Int), 2] := hx
      simp at this; omega) (by rw [vendQ_str]; decide)).2
  rw [vendQ_str] at h
  exact h

/-! ### verdicts -/
/-- the word of a place in the queue -/
def spellQ (Q : List Wt) : Nat → Nat → List Int
  | 0, _ => []
  | f + 1, p => if p = 0 then [] else spellQ Q f (wtAt Q p).before ++ [(wtAt Q p).last]
/-- the system satisfies the specification; these pairs are told -/
def SatYes (m : Syst) (s : Spc) (L : List (Nat × Nat)) : Prop := ∃ i, FitsTo m s i ∧ (stQ m s i).1.length = i ∧ L = allF (stQ m s i).2
/-- it does not: a word and a state are told -/
def SatNo (m : Syst) (s : Spc) (wd : List Int) (x : Nat) : Prop :=
  ∃ i, FitsTo m s i ∧ i < (stQ m s i).1.length ∧ fitB m s (wtAt (stQ m s i).1 i).x (wtAt (stQ m s i).1 i).y = false ∧ wd = spellQ (stQ m s i).1 i i ∧ x = (wtAt (stQ m s i).1 i).x
theorem satA_yes {L : List (Nat × Nat)} (h : SatYes sysA vendQ L) : L.length = 2 := by
  obtain ⟨i, h1, h2, rfl⟩ := h
  have n0 : (stQ sysA vendQ 0).1.length = 1 := by decide
  have n1 : (stQ sysA vendQ 1).1.length = 2 := by decide
  have n2 : (stQ sysA vendQ 2).1.length = 2 := by decide
  have n3 : (allF (stQ sysA vendQ 2).2).length = 2 := by decide
  rcases Nat.lt_trichotomy i 2 with h | rfl | h
  · rcases (show i = 0 ∨ i = 1 by omega) with rfl | rfl
    · omega
    · omega
  · exact n3
  · have := (h1 2 h).1
    omega
theorem satA_no {wd : List Int} {x : Nat} (h : SatNo sysA vendQ wd x) : False := by
  obtain ⟨i, h1, h2, h3, _, _⟩ := h
  have f0 : fitB sysA vendQ (wtAt (stQ sysA vendQ 0).1 0).x (wtAt (stQ sysA vendQ 0).1 0).y = true := by decide
  have f1 : fitB sysA vendQ (wtAt (stQ sysA vendQ 1).1 1).x (wtAt (stQ sysA vendQ 1).1 1).y = true := by decide
  have n2 : (stQ sysA vendQ 2).1.length = 2 := by decide
  rcases Nat.lt_trichotomy i 2 with h | rfl | h
  · rcases (show i = 0 ∨ i = 1 by omega) with rfl | rfl
    · rw [f0] at h3; cases h3
    · rw [f1] at h3; cases h3
  · omega
  · have := (h1 2 h).1
    omega
theorem satN_yes {L : List (Nat × Nat)} (h : SatYes sysN vendQ L) : False := by
  obtain ⟨i, h1, h2, _⟩ := h
  have n0 : (stQ sysN vendQ 0).1.length = 1 := by decide
  have f0 : fitB sysN vendQ (wtAt (stQ sysN vendQ 0).1 0).x (wtAt (stQ sysN vendQ 0).1 0).y = false := by decide
  rcases Nat.eq_zero_or_pos i with rfl | h
  · omega
  · have := (h1 0 h).2
    rw [f0] at this; cases this
theorem satN_no {wd : List Int} {x : Nat} (h : SatNo sysN vendQ wd x) : wd = [] ∧ x = 0 := by
  obtain ⟨i, h1, h2, h3, h4, h5⟩ := h
  have f0 : fitB sysN vendQ (wtAt (stQ sysN vendQ 0).1 0).x (wtAt (stQ sysN vendQ 0).1 0).y = false := by decide
  rcases Nat.eq_zero_or_pos i with rfl | h
  · exact ⟨h4, h5⟩
  · have := (h1 0 h).2
    rw [f0] at this; cases this
end Go.Proofs.YtpmbijlldoiplaaGreatDoor.Pl
/- The sets and the actions of a state, as spec.String writes them behind the state's number. -/
namespace Go.Proofs.YtpmbijlldoiplaaGreatDoor
open Go.RowKit Pl

/-! ### how long they are -/
theorem blanks_len (M : Nat) : ∀ ws : List (List UInt8), (∀ x ∈ ws, x.length ≤ M) → (blanks ws).length ≤ (M + 1) * ws.length
  | [], _ => by simp [blanks]
  | x :: ws, h => by
    have h1 := h x (by simp)
    have h2 := blanks_len M ws (fun y hy => h y (by simp [hy]))
    unfold blanks at h2 ⊢
    rw [List.flatMap_cons, List.length_append, List.length_cons, List.length_cons, Nat.mul_succ]
    omega
theorem setSp_len {acts : List ByteArray} (ha : actsB acts = true) {y : Nat} (hy : y < 2 ^ acts.length) : (setS acts y).length ≤ 200 := by
  have h8 := ((actsB_iff acts).1 ha).1
  have h1 := join_bound 20 ((memL y).map fun k => (at_ acts k).data.toList) (fun x hx => by
    obtain ⟨k, hk, rfl⟩ := List.mem_map.1 hx
    exact nm_len ha ((memL_inc hy).1 k hk).2)
  have h2 : ((memL y).map fun k => (at_ acts k).data.toList).length ≤ 8 := by
    rw [List.length_map]
    unfold memL
    exact Nat.le_trans (List.length_filter_le _ _) (by simp)
  unfold setS
  simp only [List.length_append, List.length_cons, List.length_nil]
  have := Nat.mul_le_mul_left 21 h2
  omega
theorem rising_ge {acc next : List Int} (h : accB acc next = true) : ∀ i, i < acc.length → (i : Int) ≤ acc.getD i 0
  | 0, hi => by
    have := ((accB_iff _ _).1 h 0 hi).1
    rw [okSet_iff] at this
    exact this.1
  | i + 1, hi => by
    have ih := rising_ge h i (by omega)
    have h2 := ((accB_iff _ _).1 h (i + 1) hi).2
    unfold risB at h2
    rw [Bool.or_eq_true, decide_eq_true_eq, decide_eq_true_eq] at h2
    rcases h2 with h2 | h2
    · omega
    · rw [Nat.add_sub_cancel] at h2
      omega
theorem acc_few {na ns : Nat} {t : Ste} (h : steB na ns t = true) (h8 : na ≤ 8) (hx : ∀ x ∈ t.1, x ≤ 9223372036854775807) : t.1.length ≤ 256 := by
  have hf := (ste_facts h hx).2.1
  unfold steB at h
  rw [Bool.and_eq_true] at h
  have hr := rising_ge h.2
  rcases Nat.lt_or_ge 256 t.1.length with h1 | h1
  · exfalso
    have h2 := hr 256 h1
    have h3 := hf (t.1.getD 256 0) (by rw [List.getD_eq_getElem?_getD, List.getElem?_eq_getElem h1]; exact List.getElem_mem h1)
    have h4 : 2 ^ na ≤ 2 ^ 8 := Nat.pow_le_pow_right (by decide) h8
    omega
  · exact h1
theorem accW_words {acts : List ByteArray} (ha : actsB acts = true) {l : List Int} (hx : ∀ x ∈ l, 0 ≤ x ∧ x.toNat < 2 ^ acts.length) : ∀ x ∈ accW acts l, x.length ≤ 200 := fun x h => by
  obtain ⟨y, hy, rfl⟩ := List.mem_map.1 h
  exact setSp_len ha (hx y hy).2
theorem nxW_words {acts : List ByteArray} (ha : actsB acts = true) {next : List Int} {ns j : Nat} (hns : ns ≤ 500) (hn : next.length = acts.length) (hj : j ≤ next.length) (hr : ∀ j, j < next.length → -1 ≤ next.getD j 0 ∧ next.getD j 0 < ns) :
    (∀ x ∈ nxW acts next j, x.length ≤ 200) ∧ (nxW acts next j).length ≤ 2 * j := by
  constructor
  · intro x h
    obtain ⟨a, ha1, h⟩ := List.mem_flatMap.1 h
    rw [List.mem_range] at ha1
    have := hr a (by omega)
    unfold toW at h
    split at h
    · cases h
    · rcases List.mem_cons.1 h with rfl | h
      · exact Nat.le_trans (nm_len ha (by omega)) (by omega)
      · rw [List.mem_singleton] at h
        rw [h]
        exact Nat.le_trans (dec_length _ (by omega)) (by omega)
  · clear hj
    induction j with
    | zero => simp [nxW]
    | succ j ih =>
      rw [nxW_next, List.length_append]
      have : (toW acts next j).length ≤ 2 := by unfold toW; split <;> simp
      omega
/-- what is written behind j sets, and behind j actions -/
def lineA (acts : List ByteArray) (t : Ste) (j : Nat) : List UInt8 := blanks (accW acts (t.1.take j))
def lineB (acts : List ByteArray) (t : Ste) (j : Nat) : List UInt8 := blanks (accW acts t.1 ++ bArrow :: nxW acts t.2 j)
theorem lineA_zero (acts : List ByteArray) (t : Ste) : lineA acts t 0 = [] := by simp [lineA, accW, blanks]
theorem lineA_next (acts : List ByteArray) (t : Ste) (j : Nat) (h : j < t.1.length) : lineA acts t (j + 1) = lineA acts t j ++ (32 :: setS acts (t.1.getD j 0).toNat) := by
  unfold lineA
  rw [take_next t.1 j 0 h]
  unfold accW
  rw [List.map_append, blanks_app]
  simp [blanks]
theorem lineB_zero (acts : List ByteArray) (t : Ste) : lineB acts t 0 = lineA acts t t.1.length ++ [32, 45, 62] := by
  unfold lineB lineA
  rw [blanks_app, List.take_length]
  simp [blanks, bArrow, nxW]
theorem lineB_none (acts : List ByteArray) (t : Ste) (j : Nat) (h : t.2.getD j 0 = -1) : lineB acts t (j + 1) = lineB acts t j := by
  unfold lineB
  rw [nxW_next]
  unfold toW
  rw [if_pos h, List.append_nil]
theorem lineB_some (acts : List ByteArray) (t : Ste) (j : Nat) (h : t.2.getD j 0 ≠ -1) : lineB acts t (j + 1) = lineB acts t j ++ (32 :: (at_ acts j).data.toList ++ 32 :: Lib.decDigits (t.2.getD j 0).toNat) := by
  unfold lineB
  rw [nxW_next]
  unfold toW
  rw [if_neg h, ← List.cons_append, ← List.append_assoc, blanks_app]
  simp [blanks]
theorem lineB_all (acts : List ByteArray) (t : Ste) : lineB acts t t.2.length = blanks (steW acts t) := rfl
structure SteLine (acts : List ByteArray) (ns : Nat) (t : Ste) : Prop where
  ok : actsB acts = true
  len : t.2.length = acts.length
  sets : ∀ x ∈ t.1, 0 ≤ x ∧ x.toNat < 2 ^ acts.length
  nums : ∀ j, j < t.2.length → -1 ≤ t.2.getD j 0 ∧ t.2.getD j 0 < ns
  few : t.1.length ≤ 256
  low : ns ≤ 500
theorem SteLine.a {acts : List ByteArray} {ns : Nat} {t : Ste} (h : SteLine acts ns t) (j : Nat) : (lineA acts t j).length ≤ 60000 := by
  have h1 := blanks_len 200 (accW acts (t.1.take j)) (accW_words h.ok (fun x hx => h.sets x (List.mem_of_mem_take hx)))
  have h2 : (accW acts (t.1.take j)).length ≤ 256 := by unfold accW; rw [List.length_map, List.length_take]; have := h.few; omega
  unfold lineA
  have := Nat.mul_le_mul_left 201 h2
  omega
theorem SteLine.b {acts : List ByteArray} {ns : Nat} {t : Ste} (h : SteLine acts ns t) {j : Nat} (hj : j ≤ t.2.length) : (lineB acts t j).length ≤ 60000 := by
  have h8 := ((actsB_iff acts).1 h.ok).1
  obtain ⟨n1, n2⟩ := nxW_words h.ok h.low h.len hj h.nums
  have h1 := blanks_len 200 (accW acts t.1 ++ bArrow :: nxW acts t.2 j) (fun x hx => by
    rcases List.mem_append.1 hx with hx | hx
    · exact accW_words h.ok h.sets x hx
    · rcases List.mem_cons.1 hx with rfl | hx
      · decide
      · exact n1 x hx)
  have h2 : (accW acts t.1 ++ bArrow :: nxW acts t.2 j).length ≤ 290 := by
    rw [List.length_append, List.length_cons]
    unfold accW
    rw [List.length_map]
    have := h.few
    have := h.len
    omega
  unfold lineB
  have := Nat.mul_le_mul_left 201 h2
  omega
theorem steLine_of {s : Spc} (hv : spcB s = true) {x : Nat} (hx : x < s.states.length) (h : ∀ z ∈ (teAt s.states x).1, z ≤ 9223372036854775807) : SteLine s.acts s.states.length (teAt s.states x) := by
  obtain ⟨ha, h1, h5, he⟩ := (spcB_iff s).1 hv
  obtain ⟨f1, f2, f3⟩ := ste_facts (he x hx) h
  exact ⟨ha, f1, f2, f3, acc_few (he x hx) ((actsB_iff _).1 ha).1 h, h5⟩
theorem NumsArg.le {w : World} {a : Option Addr} {n c : Nat} {xs : List Int} (h : NumsArg w a n c xs) : ∀ z ∈ xs, z ≤ 9223372036854775807 := fun z hz => by
  obtain ⟨j, hj, rfl⟩ := List.getElem_of_mem hz
  have := (h.rng j hj).2
  rwa [List.getD_eq_getElem?_getD, List.getElem?_eq_getElem hj] at this
theorem setCode_yes {acts : List ByteArray} (ha : actsB acts = true) {x : Int} (hx : 0 ≤ x ∧ x.toNat < 2 ^ acts.length) : setCode acts [x] = 0 := by
  have h1 : setB acts.length x = true := (setB_iff _ _).2 ⟨hx.1, by
    have h2 : ((2 ^ acts.length : Nat) : Int) = (2 : Int) ^ acts.length := by norm_cast
    omega⟩
  unfold setCode
  rw [ha, if_pos rfl, List.all_cons, List.all_nil, h1]
  rfl

set_option maxRecDepth 100000 in
set_option maxHeartbeats 8000000 in
theorem spLine_any {w : World} {a : Option Addr} {n c : Nat} {b : Option Addr} {k d : Nat} {s : Spc} {g x n1 c1 n2 c2 : Nat} {a1 a2 : Option Addr} (E : Env w) (T : Tab w) (A : SpecArg w a n c b k d s) (hv : spcB s = true)
    (hg : Whole w g 40 #[.slice a n c, .slice b k d]) (hx : x < s.states.length) (h1 : NumsArg w a1 n1 c1 (teAt s.states x).1) (h2 : NumsArg w a2 n2 c2 (teAt s.states x).2) :
    Calls Tryz.prog 66 #[.agg #[.slice a1 n1 c1, .slice a2 n2 c2], .pointer (some ⟨g, 0, none⟩)] w fun e w' => e = .returned (.string (mk (blanks (steW s.acts (teAt s.states x))))) ∧ Below w.heap.size w w' := by
  have HL := Lib.hid (steLine_of hv hx h1.le)
  obtain ⟨t, HT⟩ : ∃ t, Hid (teAt s.states x = t) := ⟨_, Lib.hid rfl⟩
  rw [HT.out] at HL h1 h2 ⊢
  have HA := Lib.hid A.acts
  have HE := Lib.hid E
  have HTb := Lib.hid T
  have H1 := Lib.hid h1
  have H2 := Lib.hid h2
  have HG := Lib.hid hg
  have h8 := ((actsB_iff s.acts).1 HL.out.ok).1
  have hn8 : n ≤ 8 := by have := A.acts.len; omega
  have hn1 : n1 ≤ 256 := by have := h1.arg.len; have := HL.out.few; omega
  have hn2 : n2 ≤ 8 := by have := h2.arg.len; have := HL.out.len; omega
  have q0 := hg.cell 0
  simp only [List.getElem?_toArray, List.getElem?_cons_zero] at q0
  have HQ0 := Lib.hid q0
  have hgl := hg.lt
  -- the box of the state, the Builder behind it
  have hB1 : Below w.heap.size w (w.alloc (.cells #[.slice a1 n1 c1, .slice a2 n2 c2] 101)) := (Below.refl _ w).alloc (Nat.le_refl _) _
  have b0 := bld_fresh (Whole.new (w.alloc (.cells #[.slice a1 n1 c1, .slice a2 n2 c2] 101)) 117 #[.pointer none, .slice none 0 0])
  have hB2 : Below (w.heap.size + 1) (w.alloc (.cells #[.slice a1 n1 c1, .slice a2 n2 c2] 101)) ((w.alloc (.cells #[.slice a1 n1 c1, .slice a2 n2 c2] 101)).alloc (.cells #[.pointer none, .slice none 0 0] 117)) := (Below.refl _ _).alloc (by simp) _
  have hW := (Whole.new w 101 #[.slice a1 n1 c1, .slice a2 n2 c2])
  simp only [World.size_alloc] at b0
  obtain ⟨w1, HW1⟩ : ∃ z, Hid (w.alloc (.cells #[.slice a1 n1 c1, .slice a2 n2 c2] 101) = z) := ⟨_, Lib.hid rfl⟩
  rw [HW1.out] at hB1 b0 hB2 hW
  have hz1 : w1.heap.size = w.heap.size + 1 := by rw [← HW1.out]; simp
  have HZ1 := Lib.hid hz1
  have HB0 := Lib.hid b0
  have HB1 := Lib.hid hB1
  have HB2 := Lib.hid hB2
  have HWs := Lib.hid hW
  clear E T A hv hg hx h1 h2 q0 b0 hB1 hB2 hW h8 hz1
  go_enter Tryz.func66, Tryz.ntmps66
  go_wp2
  rw [HW1.out]
  go_loopw [6, 7, 8, 14] (fun _ _ _ i wr => ∃ y : Nat, y ≤ n1 ∧ i = .int .i64 y ∧ Bld (w.heap.size + 1) (w.heap.size + 1) (lineA s.acts t y) wr ∧ Below (w.heap.size + 1) w1 wr) (fun _ _ _ i _ => n1 - (intOf i).toNat)
  case atStart => exact ⟨0, Nat.zero_le _, rfl, by rw [lineA_zero]; exact HB0.out, HB2.out⟩
  case round =>
    obtain ⟨y, hy, rfl, hBy, hby⟩ := hrel
    have HBy := Lib.hid hBy
    have Hby := Lib.hid hby
    have hbw := HB1.out.trans (hby.mono (by omega))
    have Hbw := Lib.hid hbw
    have hzy := hby.size
    have hWr := HWs.out.below hby (by omega)
    have p0 := hWr.cell 0
    have p1 := hWr.cell 1
    simp only [List.getElem?_toArray, List.getElem?_cons_succ, List.getElem?_cons_zero] at p0 p1
    have o1 : wr.cell? ⟨g, 0, none⟩ = some (.slice a n c) := (hbw.cell hgl).trans HQ0.out
    clear hBy hby hbw hWr
    by_cases hlt : y < n1
    · obtain ⟨be, oe, rfl, d1⟩ := (H1.out.arg.below Hbw.out).cells y (by have := H1.out.arg.len; omega)
      obtain ⟨X, HX⟩ : ∃ z, Hid (t.1.getD y 0 = z) := ⟨_, Lib.hid rfl⟩
      rw [HX.out] at d1
      have hXs := HL.out.sets X (by rw [← HX.out, List.getD_eq_getElem?_getD, List.getElem?_eq_getElem (by have := H1.out.arg.len; omega)]; exact List.getElem_mem _)
      obtain ⟨e0, e1, e2, hEr⟩ := (HE.out.below Hbw.out).errs
      have hStr := String_any X hEr (HTb.out.below Hbw.out) (HA.out.below Hbw.out)
      unfold stringV at hStr
      rw [if_pos (setCode_yes HL.out.ok hXs)] at hStr
      obtain ⟨z, HZ⟩ : ∃ z : ByteArray, Hid ((⟨(setS s.acts X.toNat).toArray⟩ : ByteArray) = z) := ⟨_, Lib.hid rfl⟩
      rw [HZ.out] at hStr
      have HStr := Lib.hid hStr
      have hzs : z.size ≤ 200 := by
        rw [← HZ.out]
        have := setSp_len HL.out.ok hXs.2
        show (mk (setS s.acts X.toNat)).size ≤ 200
        rw [mk_size']; exact this
      have HN : Hid (lineA s.acts t y ++ ((⟨#[32]⟩ : ByteArray) ++ z).data.toList = lineA s.acts t (y + 1)) := Lib.hid (by
        rw [lineA_next _ _ _ (by have := H1.out.arg.len; omega), HX.out, ← HZ.out]
        simp [ByteArray.data_append])
      have HLn := Lib.hid (HL.out.a y)
      have hadd : ¬ 9223372036854775807 < (⟨#[32]⟩ : ByteArray).size + z.size := by have : (⟨#[32]⟩ : ByteArray).size = 1 := rfl; omega
      have hadd' : ¬ 9223372036854775807 < 1 + z.size := by omega
      clear hXs hStr hEr
      go_wp2_with fail
      refine HStr.out.mono ?_
      rintro e w2 ⟨rfl, hb2⟩
      have HWr := Lib.hid (write_any (w.heap.size + 1) (w.heap.size + 1) (lineA s.acts t y) ((⟨#[32]⟩ : ByteArray) ++ z) w2 (HBy.out.up hb2) (by rw [ByteArray.size_append]; have := HLn.out; have : (⟨#[32]⟩ : ByteArray).size = 1 := rfl; omega) (by have := hb2.size; have := HZ1.out; omega))
      rw [HN.out] at HWr
      have Hb2 := Lib.hid hb2
      clear hb2
      go_wp2_with fail
      refine HWr.out.mono ?_
      rintro e w3 ⟨rfl, hB3, hb3, _⟩
      have HB3 := Lib.hid hB3
      have HF := Lib.hid ((Hby.out.trans (Hb2.out.mono (by have := HZ1.out; omega))).trans hb3)
      clear hB3 hb3 hadd hadd'
      go_wp2
      go_roundw
      case rel => exact ⟨y + 1, by omega, by go_num, HB3.out, HF.out⟩
      case measure => simp [intOf]; omega
    · have HY : Hid (y = t.1.length) := Lib.hid (by have := H1.out.arg.len; omega)
      have HLn := Lib.hid (HL.out.a y)
      have HWr := Lib.hid (write_any (w.heap.size + 1) (w.heap.size + 1) (lineA s.acts t y) (⟨#[32, 45, 62]⟩ : ByteArray) wr HBy.out (by have := HLn.out; have : (⟨#[32, 45, 62]⟩ : ByteArray).size = 3 := rfl; omega) (by have := HZ1.out; omega))
      have HN : Hid (lineA s.acts t y ++ (⟨#[32, 45, 62]⟩ : ByteArray).data.toList = lineB s.acts t 0) := Lib.hid (by rw [lineB_zero, HY.out])
      rw [HN.out] at HWr
      obtain ⟨v0, hv0⟩ : ∃ z, z = wr := ⟨_, rfl⟩
      subst hv0
      go_wp2_with fail
      refine HWr.out.mono ?_
      rintro e w3 ⟨rfl, hB3, hb3, _⟩
      have HB3 := Lib.hid hB3
      have hb3w := Hby.out.trans hb3
      have HF := Lib.hid hb3w
      have hWr := HWs.out.below hb3w (by have := HZ1.out; omega)
      have p2 := hWr.cell 1
      simp only [List.getElem?_toArray, List.getElem?_cons_succ, List.getElem?_cons_zero] at p2
      clear hB3 hb3 hb3w hWr p0 p1 o1
      go_wp2
      go_loopw [9, 10, 33] (fun _ _ i wr => ∃ y : Nat, y ≤ n2 ∧ i = .int .i64 y ∧ Bld (w.heap.size + 1) (w.heap.size + 1) (lineB s.acts t y) wr ∧ Below (w.heap.size + 1) w1 wr) (fun _ _ i _ => n2 - (intOf i).toNat)
      case atStart => exact ⟨0, Nat.zero_le _, rfl, HB3.out, HF.out⟩
      case round =>
        obtain ⟨y, hy, rfl, hBy, hby⟩ := hrel
        have HBy := Lib.hid hBy
        have Hby := Lib.hid hby
        have hbw := HB1.out.trans (hby.mono (by have := HZ1.out; omega))
        have Hbw := Lib.hid hbw
        have hzy := hby.size
        have o1 : wr.cell? ⟨g, 0, none⟩ = some (.slice a n c) := (hbw.cell hgl).trans HQ0.out
        clear hBy hby hbw
        by_cases hlt : y < n2
        · obtain ⟨bk, ok, rfl, d1⟩ := (H2.out.arg.below Hbw.out).cells y (by have := H2.out.arg.len; omega)
          obtain ⟨X, HX⟩ : ∃ z, Hid (t.2.getD y 0 = z) := ⟨_, Lib.hid rfl⟩
          rw [HX.out] at d1
          have hXs := HL.out.nums y (by have := H2.out.arg.len; omega)
          rw [HX.out] at hXs
          have h500 := HL.out.low
          by_cases hX : X = -1
          · have hq : (X != -1) = false := by rw [hX]; rfl
            have HBn : Hid (Bld (w.heap.size + 1) (w.heap.size + 1) (lineB s.acts t (y + 1)) wr) := Lib.hid (by rw [lineB_none _ _ _ (by rw [HX.out]; exact hX)]; exact HBy.out)
            clear hXs hX
            go_wp2
            go_roundw
            case rel => exact ⟨y + 1, by omega, by go_num, HBn.out, Hby.out⟩
            case measure => simp [intOf]; omega
          · obtain ⟨v, hv⟩ : ∃ v : Nat, X = (v : Int) := ⟨X.toNat, by omega⟩
            have hv5 : v < 500 := by omega
            have HXv : Hid (t.2.getD y 0 = (v : Int)) := Lib.hid (by rw [HX.out, hv])
            have hq : ((v : Int) != -1) = true := by rw [bne_iff_ne]; omega
            rw [hv] at d1
            have hyn : y < n := by have := H2.out.arg.len; have := HL.out.len; have := HA.out.len; omega
            obtain ⟨ba, oa, rfl, a0⟩ := HA.out.cells y (by have := HA.out.len; omega)
            obtain ⟨z, HZ⟩ : ∃ z, Hid (at_ s.acts y = z) := ⟨_, Lib.hid rfl⟩
            change w.cell? _ = some (.string (at_ s.acts y)) at a0
            rw [HZ.out] at a0
            have a1' := (Hbw.out.cell (lt_of_cell a0)).trans a0
            have hzs : z.size ≤ 20 := by
              have := nm_len HL.out.ok (k := y) (by have := HA.out.len; omega)
              rw [HZ.out] at this
              rw [Lib.size_eq]; exact this
            obtain ⟨D2, HD2⟩ : ∃ D, Hid (mk (Lib.decDigits v) = D) := ⟨_, Lib.hid rfl⟩
            have hD2 : D2.size ≤ 21 := by rw [← HD2.out, mk_size']; exact dec_length v (by omega)
            have hsp : (⟨#[32]⟩ : ByteArray).size = 1 := rfl
            have HN2 : Hid (lineB s.acts t y ++ ((⟨#[32]⟩ : ByteArray) ++ z ++ (⟨#[32]⟩ : ByteArray) ++ D2).data.toList = lineB s.acts t (y + 1)) := Lib.hid (by
              rw [lineB_some _ _ _ (by rw [HXv.out]; omega), HXv.out, ← HD2.out, HZ.out]
              simp [ByteArray.data_append, mk])
            have HL2 := Lib.hid (HL.out.b (j := y) (by have := H2.out.arg.len; omega))
            have HBo : Hid (Bld (w.heap.size + 1) (w.heap.size + 1) (lineB s.acts t y) wr) := HBy
            have HEr := Lib.hid (HE.out.below Hbw.out)
            have zz0 : g < wr.heap.size := lt_of_cell o1
            have zz1 : ba < wr.heap.size := lt_of_cell a1'
            have zz2 : ba < w.heap.size := lt_of_cell a0
            have zz5 : w.heap.size + 1 < wr.heap.size := bld_lt HBy.out
            have HZz := Lib.hid zz2
            have hy0 : (0 : Int) ≤ (y : Int) := by omega
            have hy1 : (y : Int) < n := by omega
            clear a0 hXs hX hv h500
            have hadd1 : ¬ 9223372036854775807 < (⟨#[32]⟩ : ByteArray).size + z.size := by omega
            have hadd2 : ¬ 9223372036854775807 < ((⟨#[32]⟩ : ByteArray) ++ z).size + (⟨#[32]⟩ : ByteArray).size := by rw [ByteArray.size_append]; omega
            have hadd3 : ¬ 9223372036854775807 < ((⟨#[32]⟩ : ByteArray) ++ z ++ (⟨#[32]⟩ : ByteArray)).size + D2.size := by rw [ByteArray.size_append, ByteArray.size_append]; omega
            have hadd4 : ¬ 9223372036854775807 < 1 + z.size := by omega
            have hadd5 : ¬ 9223372036854775807 < 1 + z.size + 1 := by omega
            have hadd6 : ¬ 9223372036854775807 < 1 + z.size + 1 + D2.size := by omega
            have hadd7 : ¬ 9223372036854775807 < ((⟨#[32]⟩ : ByteArray) ++ z).size + 1 := by rw [ByteArray.size_append]; omega
            go_wp2
            go_region_held3 (fun w' => w'.cell? ⟨g, 0, none⟩ = some (.slice (some ⟨ba, oa, none⟩) n c) ∧ w'.cell? ⟨ba, oa + y, none⟩ = some (.string z))
              ((first | assumption | go_keep))
              (first
                | (go_at_call 69; (refine (itoa_any v (by omega) _ (HEr.out.below ?_)).mono ?_; (first | exact (Below.refl _ _).drew | exact Below.refl _ _); rw [HD2.out]; rintro e wJ ⟨rfl, hbJ⟩; have kI1 := up_cell (p := ⟨g, 0, none⟩) hbJ o1; have kI2 := up_cell (p := ⟨ba, oa + y, none⟩) hbJ a1'; have kIz := hbJ.size))
                | (go_at_call 68; (refine (write_any (w.heap.size + 1) (w.heap.size + 1) (lineB s.acts t y) ((⟨#[32]⟩ : ByteArray) ++ z ++ (⟨#[32]⟩ : ByteArray) ++ D2) _ (up_bld hbJ HBo.out) ?_ ?_).mono ?_; (simp only [ByteArray.size_append]; have := HL2.out; omega); (simp at kIz; omega); rw [HN2.out]; rintro e wK ⟨rfl, hBK, hbK, hkK⟩; have kK1 := (hbK.cell (p := ⟨g, 0, none⟩) (Nat.lt_succ_of_lt HG.out.lt)).trans kI1; have kK2 := (hbK.cell (p := ⟨ba, oa + y, none⟩) (Nat.lt_succ_of_lt HZz.out)).trans kI2)))
            go_wp2
            go_roundw
            case rel =>
              have hbw : Below wr.heap.size wr wJ := by
                first
                  | exact hbJ
                  | exact (Below.refl _ wr).drew.trans hbJ
              exact ⟨y + 1, by omega, by go_num, hBK, (Hby.out.trans (hbw.mono (by omega))).trans hbK⟩
            case measure => simp [intOf]; omega
        · have HN3 : Hid (lineB s.acts t y = blanks (steW s.acts t)) := Lib.hid (by
            have h3 : y = t.2.length := by have := H2.out.arg.len; omega
            rw [h3]; exact lineB_all _ _)
          have hBe := HBy.out
          rw [HN3.out] at hBe
          have HSt := Lib.hid (bstr_any (w.heap.size + 1) (w.heap.size + 1) _ wr hBe (by have := HZ1.out; omega))
          clear hBe
          go_wp2_with fail
          refine HSt.out.mono ?_
          rintro e w7 ⟨rfl, hb7⟩
          go_wp2
          go_ret
          exact ⟨rfl, HB1.out.trans ((Hby.out.trans hb7).mono (by omega))⟩
end Go.Proofs.YtpmbijlldoiplaaGreatDoor
