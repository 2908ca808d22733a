/- Texts joined: StrPl, Numb, Split2, PActs, PState, Acc. -/
import Derived.Test.YtbncofgbpffmkaaGreatDoorJc11
import Derived.WalkSpells
import Derived.Test.YtbncofgbpffmkaaGreatDoorJc07
import Derived.Lib.SlSplitV
import Derived.Deep.RegionHeld3
import Derived.Lib.QuietBelow
/- Plain facts: how long the string of a system is. -/
namespace Go.Proofs.YtbncofgbpffmkaaGreatDoor
open Pl

theorem nm_len {acts : List ByteArray} (ha : actsB acts = true) {k : Nat} (hk : k < acts.length) : (at_ acts k).data.toList.length ≤ 20 := name_size (acts_name ha hk)
theorem edgeS_len {acts : List ByteArray} (ha : actsB acts = true) {ns : Nat} (hns : ns ≤ 9223372036854775807) {e : Edg} (he : okE acts.length ns e = true) : (edgeS acts e).length ≤ 43 := by
  have h := (okE_iff _ _ _).1 he
  have h1 := nm_len ha (k := e.1.toNat) (by omega)
  have h2 := dec_length e.2.toNat (by omega)
  unfold edgeS nmS
  simp only [List.length_append, List.length_cons, List.length_nil]
  omega
theorem flat_len {acts : List ByteArray} (ha : actsB acts = true) {ns : Nat} (hns : ns ≤ 9223372036854775807) : ∀ l : List Edg, (∀ e ∈ l, okE acts.length ns e = true) → (l.flatMap (edgeS acts)).length ≤ 43 * l.length
  | [], _ => by simp
  | e :: l, h => by
    have h1 := edgeS_len ha hns (h e (by simp))
    have h2 := flat_len ha hns l (fun x hx => h x (by simp [hx]))
    rw [List.flatMap_cons, List.length_append, List.length_cons]
    omega
theorem heads_len {acts : List ByteArray} (h : ∀ a ∈ acts, a.data.toList.length ≤ 20) : (acts.flatMap (fun a => [32] ++ a.data.toList)).length ≤ 21 * acts.length := by
  induction acts with
  | nil => simp
  | cons a l ih =>
    have h1 := h a (by simp)
    have h2 := ih (fun x hx => h x (by simp [hx]))
    rw [List.flatMap_cons]
    simp only [List.length_append, List.length_cons, List.length_nil] at h2 ⊢
    omega
theorem acts_len {acts : List ByteArray} (ha : actsB acts = true) : ∀ a ∈ acts, a.data.toList.length ≤ 20 := fun a h => by
  obtain ⟨k, hk, rfl⟩ := List.getElem_of_mem h
  have := nm_len ha hk
  unfold at_ at this
  rwa [List.getD_eq_getElem?_getD, List.getElem?_eq_getElem hk] at this
theorem row_ok {m : Syst} (h : sysB m = true) {i : Nat} (hi : i < m.states.length) : ∀ e ∈ stAt m.states i, okE m.acts.length m.states.length e = true := fun _ he => edge_in (((sysB_iff m).1 h).2.2.2.1 i hi) he
theorem strK_len {m : Syst} (h : sysB m = true) : ∀ k, k ≤ m.states.length → (strK m k).length ≤ 200 + 23 * k + 43 * total (m.states.take k)
  | 0, _ => by
    have h1 := heads_len (acts_len ((sysB_iff m).1 h).1)
    have h2 := ((actsB_iff m.acts).1 ((sysB_iff m).1 h).1).1
    unfold strK headS bSystem
    simp only [List.length_append, List.length_cons, List.length_nil, List.range_zero, List.flatMap_nil]
    omega
  | k + 1, hk => by
    have ih := strK_len h k (by omega)
    have hs := (sysB_iff m).1 h
    have h1 := flat_len hs.1 (ns := m.states.length) (by omega) (stAt m.states k) (row_ok h (by omega))
    have h2 := dec_length k (by omega)
    rw [strK_next, total_take m.states k (by omega)]
    unfold rowS
    simp only [List.length_append, List.length_cons, List.length_nil]
    omega
/-- the string of the first k states, and of the first x edges of the next one -/
def strX (m : Syst) (k x : Nat) : List UInt8 := strK m k ++ (Lib.decDigits k ++ [58]) ++ ((stAt m.states k).take x).flatMap (edgeS m.acts)
theorem strX_len {m : Syst} (h : sysB m = true) {k x : Nat} (hk : k < m.states.length) : (strX m k x).length ≤ 20000000 := by
  have hs := (sysB_iff m).1 h
  have h0 := strK_len h k (by omega)
  have h1 := flat_len hs.1 (ns := m.states.length) (by omega) ((stAt m.states k).take x) (fun e he => row_ok h hk e (List.mem_of_mem_take he))
  have h2 := dec_length k (by omega)
  have h3 := total_take m.states k hk
  have h4 := total_take_le m.states (k + 1)
  have h5 : ((stAt m.states k).take x).length ≤ (stAt m.states k).length := by rw [List.length_take]; omega
  unfold strX
  simp only [List.length_append, List.length_cons, List.length_nil]
  omega
theorem strX_next (m : Syst) (k x : Nat) (hx : x < (stAt m.states k).length) : strX m k (x + 1) = strX m k x ++ edgeS m.acts (edAt (stAt m.states k) x) := by
  unfold strX
  rw [take_next _ x (0, 0) hx, List.flatMap_append, List.flatMap_singleton, ← List.append_assoc]
  rfl
theorem strX_end (m : Syst) (k : Nat) : strX m k (stAt m.states k).length ++ [10] = strK m (k + 1) := by
  rw [strK_next]
  unfold strX rowS
  rw [List.take_length]
  simp
theorem strX_zero (m : Syst) (k : Nat) : strX m k 0 = strK m k ++ (Lib.decDigits k ++ [58]) := by simp [strX]
/-- the first line as far as j names -/
def headP (acts : List ByteArray) (j : Nat) : List UInt8 := bSystem ++ (acts.take j).flatMap (fun a => [32] ++ a.data.toList)
theorem headP_zero (acts : List ByteArray) : headP acts 0 = bSystem := by simp [headP]
theorem headP_all (acts : List ByteArray) : headP acts acts.length = headS acts := by simp [headP, headS]
theorem headP_next (acts : List ByteArray) (j : Nat) (h : j < acts.length) : headP acts (j + 1) = headP acts j ++ ([32] ++ (at_ acts j).data.toList) := by
  unfold headP
  rw [take_next acts j ByteArray.empty h, List.flatMap_append, List.flatMap_singleton, ← List.append_assoc]
  rfl
theorem headP_len {acts : List ByteArray} (ha : actsB acts = true) (j : Nat) : (headP acts j).length ≤ 200 := by
  have h3 := heads_len (acts := acts.take j) (fun a h => acts_len ha a (List.mem_of_mem_take h))
  have h2 := ((actsB_iff acts).1 ha).1
  rw [List.length_take] at h3
  unfold headP
  simp only [List.length_append, bSystem, List.length_cons, List.length_nil] at h3 ⊢
  omega
theorem mk_add (a b : List UInt8) : mk a ++ mk b = mk (a ++ b) := by
  apply ByteArray.ext
  simp [mk, ByteArray.data_append]
theorem mk_size' (l : List UInt8) : (mk l).size = l.length := by simp [mk, ByteArray.size]
end Go.Proofs.YtbncofgbpffmkaaGreatDoor
/- parseNumber; the reference's Number. -/
namespace Go.Proofs.YtbncofgbpffmkaaGreatDoor
open Go.RowKit Pl

def numT (l : List UInt8) : Value := match numV l with | some x => .tuple #[.int .i64 x, .bool true] | none => .tuple #[.int .i64 0, .bool false]
theorem numT_none {l : List UInt8} (h : numV l = none) : numT l = .tuple #[.int .i64 0, .bool false] := by unfold numT; rw [h]
theorem numT_some {l : List UInt8} {x : Int} (h : numV l = some x) : numT l = .tuple #[.int .i64 x, .bool true] := by unfold numT; rw [h]
theorem byte_at (s : ByteArray) (k : Nat) (h : k < s.size) : s.data.toList[k]? = some s[k] := by
  rw [Array.getElem?_toList]; exact Array.getElem?_eq_getElem h
theorem all_dig (s : ByteArray) (h : ∀ k (hk : k < s.size), digB s[k] = true) : s.data.toList.all digB = true := by
  rw [List.all_eq_true]
  intro c hc
  obtain ⟨k, hk, rfl⟩ := List.getElem_of_mem hc
  have := h k (by rw [Lib.size_eq]; exact hk)
  have e : s.data.toList[k] = s[k]'(by rw [Lib.size_eq]; exact hk) := by
    have h1 := byte_at s k (by rw [Lib.size_eq]; exact hk)
    rw [List.getElem?_eq_getElem hk] at h1
    exact Option.some.inj h1
  rw [e]; exact this
theorem not_dig (s : ByteArray) (k : Nat) (hk : k < s.size) (h : digB s[k] = false) : s.data.toList.all digB = false := by
  rw [List.all_eq_false]
  refine ⟨s[k], ?_, by rw [h]; decide⟩
  have h1 := byte_at s k hk
  exact List.mem_of_getElem? h1

set_option maxRecDepth 100000 in
set_option maxHeartbeats 2000000 in
theorem parseNumber_any (s : ByteArray) (hs : s.size ≤ 281474976710656) (w : World) (E : Env w) :
    Calls Tryz.prog 116 #[.string s] w fun e w' => e = .returned (numT s.data.toList) ∧ Below w.heap.size w w' := by
  have HE := Lib.hid E
  clear E
  by_cases h0 : s.size = 0
  · have e : s = ⟨#[]⟩ := by
      apply ByteArray.ext
      exact Array.eq_empty_of_size_eq_zero h0
    subst e
    have HN : Hid (numT (⟨#[]⟩ : ByteArray).data.toList = .tuple #[.int .i64 0, .bool false]) := Lib.hid (numT_none rfl)
    clear h0
    go_enter Tryz.func116, Tryz.ntmps116
    go_wp2
    go_ret2
    exact ⟨by rw [HN.out]; rfl, Below.refl _ _⟩
  · have hp : 0 < s.size := by omega
    have hne : s.toList.isEmpty = false := by
      rw [ByteArray.toList_eq, List.isEmpty_eq_false_iff]
      intro e
      have h9 : s.size = 0 := by rw [Lib.size_eq, e]; rfl
      omega
    have hne2 : ¬ s.toList = [] := by
      intro e
      rw [e] at hne
      cases hne
    clear h0
    have hhead : s.data.toList.head? = some s[0] := by
      rw [← byte_at s 0 hp]; exact List.head?_eq_getElem? ..
    by_cases hl1 : 1 < s.size
    · have hl1' : (1 : Int) < s.size := by omega
      by_cases hl2 : s[0].toNat = 48
      · have h48 : (((s[0].toNat : Nat) : Int) == 48) = true := by rw [beq_iff_eq]; omega
        have HN := Lib.hid (numT_none (numV_lead (l := s.data.toList) (by rw [← Lib.size_eq]; exact hl1) (by rw [hhead]; congr 1; exact UInt8.toNat_inj.1 hl2)))
        clear hl2 hhead
        go_enter Tryz.func116, Tryz.ntmps116
        go_wp2
        go_ret2
        exact ⟨by rw [HN.out]; rfl, Below.refl _ _⟩
      · have h48 : (((s[0].toNat : Nat) : Int) == 48) = false := by rw [beq_eq_false_iff_ne]; omega
        have HL : Hid (¬ (1 < s.data.toList.length ∧ s.data.toList.head? = some 48)) := Lib.hid (by
          rw [hhead]
          rintro ⟨_, e⟩
          apply hl2
          have := Option.some.inj e
          rw [this]; rfl)
        clear hl2 hhead
        go_enter Tryz.func116, Tryz.ntmps116
        go_wp2
        go_loopw [4, 21] (fun _ i wr => ∃ k : Nat, k ≤ s.size ∧ i = .int .i64 k ∧ Hid (∀ j (hj : j < s.size), j < k → digB s[j] = true) ∧ w = wr) (fun _ i _ => s.size - (intOf i).toNat)
        case atStart => exact ⟨0, Nat.zero_le _, rfl, Lib.hid fun j _ hj => absurd hj (Nat.not_lt_zero _), rfl⟩
        case round =>
          obtain ⟨k, hk, rfl, hgood, rfl⟩ := hrel
          by_cases hlt : k < s.size
          · cases hd : digB s[k]
            · have HN := Lib.hid (numT_none (numV_bad (not_dig s k hlt hd)))
              have hd2 : ((s[k].toNat : Nat) : Int) < 48 ∨ (57 : Int) < ((s[k].toNat : Nat) : Int) := by
                have h3 := not_congr (digB_iff s[k])
                rw [hd] at h3
                simp at h3
                omega
              clear hd
              rcases hd2 with hd2 | hd2
              · go_wp2
                go_ret2
                exact ⟨by rw [HN.out]; rfl, Below.refl _ _⟩
              · have hd3 : ¬ ((s[k].toNat : Nat) : Int) < 48 := by omega
                go_wp2
                go_ret2
                exact ⟨by rw [HN.out]; rfl, Below.refl _ _⟩
            · have hd1 := (digB_iff s[k]).1 hd
              have hd2 : (48 : Int) ≤ ((s[k].toNat : Nat) : Int) := by omega
              have hd3 : ((s[k].toNat : Nat) : Int) ≤ 57 := by omega
              have HG : Hid (∀ j (hj : j < s.size), j < k + 1 → digB s[j] = true) := Lib.hid fun j hj hjk => by
                by_cases e : j = k
                · subst e; exact hd
                · exact hgood.out j hj (by omega)
              clear hd hd1
              go_wp2
              go_roundw
              case rel => exact ⟨k + 1, by omega, by go_num, HG, trivial⟩
              case measure => simp [intOf]; omega
          · have hall := all_dig s (fun j hj => hgood.out j hj (by omega))
            have hnn : s.data.toList ≠ [] := by
              intro e
              have h9 : s.size = 0 := by rw [Lib.size_eq, e]; rfl
              omega
            have HN := Lib.hid (numT_some (numV_good hnn HL.out hall))
            obtain ⟨v, HV⟩ : ∃ v, Hid (min (decV s.data.toList : Int) 9223372036854775807 = v) := ⟨_, Lib.hid rfl⟩
            rw [HV.out] at HN
            have HAt := atoi_digits hnn hall
            rw [HV.out] at HAt
            clear hall hnn
            rcases HAt with h1 | ⟨h1, h2⟩
            · have HC := Lib.hid (Tryz.strconv_Atoi_ok s (by omega) v h1 w)
              clear h1
              go_wp2_with fail
              refine HC.out.mono ?_
              rintro e w2 ⟨rfl, hw2⟩
              have hb : Below w.heap.size w w2 := by
                rcases hw2 with rfl | ⟨t, rfl⟩
                · exact Below.refl _ _
                · exact Lib.bytesWorld_below _ _ _
              have HB := Lib.hid hb
              clear hb hw2
              go_wp2
              go_ret2
              exact ⟨by rw [HN.out]; rfl, HB.out⟩
            · obtain ⟨tp, p, hvar⟩ := HE.out.range
              have HC := Tryz.strconv_Atoi_range_var s hs h1 tp p w hvar
              rw [h2] at HC
              have HC := Lib.hid HC
              clear h1 h2 hvar
              go_wp2_with fail
              refine HC.out.mono ?_
              rintro e w2 ⟨N, rfl, _, hw2, hb⟩
              have HB := Lib.hid hb
              clear hb hw2
              go_wp2
              go_ret2
              exact ⟨by rw [HN.out]; rfl, HB.out⟩
    · have hl1' : (s.size : Int) ≤ 1 := by omega
      have HL : Hid (¬ (1 < s.data.toList.length ∧ s.data.toList.head? = some 48)) := Lib.hid (by
        rw [← Lib.size_eq]
        rintro ⟨h, _⟩
        exact hl1 h)
      clear hhead
      go_enter Tryz.func116, Tryz.ntmps116
      go_wp2
      go_loopw [4, 21] (fun _ i wr => ∃ k : Nat, k ≤ s.size ∧ i = .int .i64 k ∧ Hid (∀ j (hj : j < s.size), j < k → digB s[j] = true) ∧ w = wr) (fun _ i _ => s.size - (intOf i).toNat)
      case atStart => exact ⟨0, Nat.zero_le _, rfl, Lib.hid fun j _ hj => absurd hj (Nat.not_lt_zero _), rfl⟩
      case round =>
        obtain ⟨k, hk, rfl, hgood, rfl⟩ := hrel
        by_cases hlt : k < s.size
        · cases hd : digB s[k]
          · have HN := Lib.hid (numT_none (numV_bad (not_dig s k hlt hd)))
            have hd2 : ((s[k].toNat : Nat) : Int) < 48 ∨ (57 : Int) < ((s[k].toNat : Nat) : Int) := by
              have h3 := not_congr (digB_iff s[k])
              rw [hd] at h3
              simp at h3
              omega
            clear hd
            rcases hd2 with hd2 | hd2
            · go_wp2
              go_ret2
              exact ⟨by rw [HN.out]; rfl, Below.refl _ _⟩
            · have hd3 : ¬ ((s[k].toNat : Nat) : Int) < 48 := by omega
              go_wp2
              go_ret2
              exact ⟨by rw [HN.out]; rfl, Below.refl _ _⟩
          · have hd1 := (digB_iff s[k]).1 hd
            have hd2 : (48 : Int) ≤ ((s[k].toNat : Nat) : Int) := by omega
            have hd3 : ((s[k].toNat : Nat) : Int) ≤ 57 := by omega
            have HG : Hid (∀ j (hj : j < s.size), j < k + 1 → digB s[j] = true) := Lib.hid fun j hj hjk => by
              by_cases e : j = k
              · subst e; exact hd
              · exact hgood.out j hj (by omega)
            clear hd hd1
            go_wp2
            go_roundw
            case rel => exact ⟨k + 1, by omega, by go_num, HG, trivial⟩
            case measure => simp [intOf]; omega
        · have hall := all_dig s (fun j hj => hgood.out j hj (by omega))
          have hnn : s.data.toList ≠ [] := by
            intro e
            have h9 : s.size = 0 := by rw [Lib.size_eq, e]; rfl
            omega
          have HN := Lib.hid (numT_some (numV_good hnn HL.out hall))
          obtain ⟨v, HV⟩ : ∃ v, Hid (min (decV s.data.toList : Int) 9223372036854775807 = v) := ⟨_, Lib.hid rfl⟩
          rw [HV.out] at HN
          have HAt := atoi_digits hnn hall
          rw [HV.out] at HAt
          clear hall hnn
          rcases HAt with h1 | ⟨h1, h2⟩
          · have HC := Lib.hid (Tryz.strconv_Atoi_ok s (by omega) v h1 w)
            clear h1
            go_wp2_with fail
            refine HC.out.mono ?_
            rintro e w2 ⟨rfl, hw2⟩
            have hb : Below w.heap.size w w2 := by
              rcases hw2 with rfl | ⟨t, rfl⟩
              · exact Below.refl _ _
              · exact Lib.bytesWorld_below _ _ _
            have HB := Lib.hid hb
            clear hb hw2
            go_wp2
            go_ret2
            exact ⟨by rw [HN.out]; rfl, HB.out⟩
          · obtain ⟨tp, p, hvar⟩ := HE.out.range
            have HC := Tryz.strconv_Atoi_range_var s hs h1 tp p w hvar
            rw [h2] at HC
            have HC := Lib.hid HC
            clear h1 h2 hvar
            go_wp2_with fail
            refine HC.out.mono ?_
            rintro e w2 ⟨N, rfl, _, hw2, hb⟩
            have HB := Lib.hid hb
            clear hb hw2
            go_wp2
            go_ret2
            exact ⟨by rw [HN.out]; rfl, HB.out⟩
end Go.Proofs.YtbncofgbpffmkaaGreatDoor
/- strings.Split at one byte, strings.TrimSuffix, strings.Clone as the program calls them; parseActions. -/
namespace Go.Proofs.YtbncofgbpffmkaaGreatDoor
open Go.RowKit Pl

theorem sp_len (c : UInt8) : ∀ (l : List UInt8), ∀ x ∈ sp c l, x.length ≤ l.length
  | [], x, h => by simp [sp] at h; simp [h]
  | y :: r, x, h => by
    have ih := sp_len c r
    by_cases hc : y = c
    · subst hc
      rw [sp_at] at h
      rcases List.mem_cons.1 h with rfl | h
      · simp
      · have := ih x h; simp; omega
    · obtain ⟨p, ps, h1, h2⟩ := sp_other hc r
      rw [h2] at h
      rw [h1] at ih
      rcases List.mem_cons.1 h with rfl | h
      · have := ih p (by simp); simp; omega
      · have := ih x (by simp [h]); simp; omega
/-- the parts as strings -/
def spB (c : UInt8) (s : ByteArray) : List ByteArray := (sp c s.data.toList).map mk
theorem split_eq (c : UInt8) (s : ByteArray) : Lib.splitB (⟨#[c]⟩ : ByteArray) 0 (Lib.countB s ⟨#[c]⟩) s = spB c s := by
  have h := Lib.splitB_data (⟨#[c]⟩ : ByteArray) 0 (Lib.countB s ⟨#[c]⟩) s
  have h2 : Lib.splitK (⟨#[c]⟩ : ByteArray).data.toList 0 (Lib.countB s ⟨#[c]⟩) s.data.toList = sp c s.data.toList := split_sp c s.data.toList.length s.data.toList (Nat.le_refl _)
  rw [h2] at h
  unfold spB
  rw [← h, List.map_map]
  have : (mk ∘ fun x : ByteArray => x.data.toList) = id := by funext x; exact mk_of x
  rw [this, List.map_id]
theorem spB_at (c : UInt8) (s : ByteArray) (k : Nat) (h : k < (spB c s).length) : at_ (spB c s) k ∈ spB c s := by
  unfold at_
  rw [List.getD_eq_getElem?_getD, List.getElem?_eq_getElem h]
  exact List.getElem_mem h
theorem spB_size {c : UInt8} {s x : ByteArray} (h : x ∈ spB c s) : x.size ≤ s.size := by
  obtain ⟨l, hl, rfl⟩ := List.mem_map.1 h
  rw [mk_size', Lib.size_eq s]
  exact sp_len c _ l hl
theorem spB_pos (c : UInt8) (s : ByteArray) : 0 < (spB c s).length := by
  unfold spB
  rw [List.length_map]
  exact List.length_pos_iff.2 (sp_ne c _)
theorem sp_count (c : UInt8) : ∀ (l : List UInt8), (sp c l).length ≤ l.length + 1
  | [] => by simp [sp]
  | y :: r => by
    have ih := sp_count c r
    by_cases hc : y = c
    · subst hc; rw [sp_at]; simp; omega
    · obtain ⟨p, ps, h1, h2⟩ := sp_other hc r
      rw [h2]; rw [h1] at ih; simp at ih ⊢; omega
theorem spB_count (c : UInt8) (s : ByteArray) : (spB c s).length ≤ s.size + 1 := by
  unfold spB
  rw [List.length_map, Lib.size_eq s]
  exact sp_count c _
theorem strs_new (w : World) (ss : List ByteArray) (hb : ss.length ≤ 9223372036854775807) (hs : ∀ x ∈ ss, x.size ≤ 9223372036854775807) :
    StrArg (w.alloc (.cells (ss.map Value.string).toArray 9)) (some ⟨w.heap.size, 0, none⟩) ss.length ss.length ss := by
  refine ⟨(fun h => by cases h), rfl, Nat.le_refl _, hb, fun k hk => ?_, fun k hk => ⟨w.heap.size, 0, rfl, ?_⟩⟩
  · unfold at_
    rw [List.getD_eq_getElem?_getD, List.getElem?_eq_getElem hk]
    exact hs _ (List.getElem_mem hk)
  · rw [(Whole.new w 9 (ss.map Value.string).toArray).cell]
    simp [List.getD, hk]
theorem split_any (c : UInt8) (s : ByteArray) (hs : s.size ≤ 1000000) (w : World) (E : Env w) :
    Calls Tryz.prog 70 #[.string s, .string ⟨#[c]⟩] w fun e w' => e = .returned (.slice (some ⟨w.heap.size, 0, none⟩) (spB c s).length (spB c s).length) ∧ w.alloc (.cells ((spB c s).map Value.string).toArray 9) = w' := by
  obtain ⟨m, hm⟩ := E.most
  refine (Tryz.strings_Split s ⟨#[c]⟩ m w (by omega) hm (Nat.le_refl 1)).mono fun e w' h => ?_
  obtain ⟨rfl, rfl⟩ := h
  have hlen := Lib.splitB_all (⟨#[c]⟩ : ByteArray) (Nat.le_refl 1) 0 _ s rfl
  rw [split_eq] at hlen ⊢
  exact ⟨by rw [hlen], rfl⟩
theorem trim_any (s : ByteArray) (hs : s.size ≤ 1000000) (w : World) :
    Calls Tryz.prog 71 #[.string s, .string ⟨#[10]⟩] w fun e w' => e = .returned (.string (mk (cut1 s.data.toList))) ∧ w = w' :=
  (Tryz.strings_TrimSuffix s ⟨#[10]⟩ w (by omega)).mono fun e w' h => ⟨h.1, h.2.symm⟩
theorem clone_any (s : ByteArray) (hs : s.size ≤ 1000000) (w : World) :
    Calls Tryz.prog 72 #[.string s] w fun e w' => e = .returned (.string s) ∧ Below w.heap.size w w' := by
  have HC := Lib.hid (Tryz.stringslite_Clone s w (by omega))
  go_enter Tryz.func72, Tryz.ntmps72
  go_wp2_with fail
  refine HC.out.mono ?_
  rintro e w' ⟨rfl, hb⟩
  go_wp2
  go_ret
  exact ⟨rfl, hb⟩
end Go.Proofs.YtbncofgbpffmkaaGreatDoor
/- A part of a list of strings; the first line of an object. -/
namespace Go.Proofs.YtbncofgbpffmkaaGreatDoor
open Go.RowKit Pl

/-- 'words[k:]' of strings -/
theorem cut_run (a : Option Addr) (n c k : Nat) (h : k ≤ n) (w' : World) : (Instr.slice 22 (.slice a n c) (some (.int .i64 k)) none none).run Tryz.prog w' = .ok (.slice (if c = k then a else a.map fun x => x.add k) (n - k) (c - k)) w' := by
  have h1 : (0 : Int) ≤ k := by omega
  have h2 : (k : Int) ≤ n := by omega
  go_simp
theorem cut_from {w : World} {a : Option Addr} {n c : Nat} {ss : List ByteArray} (A : StrArg w a n c ss) (k : Nat) (h : k ≤ n) :
    ∃ a', (∀ w', (Instr.slice 22 (.slice a n c) (some (.int .i64 k)) none none).run Tryz.prog w' = .ok (.slice a' (n - k) (c - k)) w') ∧ StrArg w a' (n - k) (c - k) (ss.drop k) ∧ ∀ ad, a' = some ad → ∃ ad0, a = some ad0 ∧ ad.block = ad0.block := by
  refine ⟨_, cut_run a n c k h, ⟨?_, by rw [List.length_drop, A.len], by have := A.cap; omega, by have := A.big; omega, fun j hj => ?_, fun j hj => ?_⟩, ?_⟩
  · intro e
    by_cases hc : c = k
    · omega
    · rw [if_neg hc] at e
      cases a with
      | none => have := A.nil rfl; omega
      | some x => cases e
  · have e : at_ (ss.drop k) j = at_ ss (k + j) := by simp [at_, List.getD]
    rw [e]
    exact A.sz _ (by omega)
  · rw [List.length_drop] at hj
    obtain ⟨b, off, rfl, hcell⟩ := A.cells (k + j) (by omega)
    have e : (ss.drop k).getD j ByteArray.empty = ss.getD (k + j) ByteArray.empty := by simp [List.getD]
    rw [e, if_neg (by have := A.cap; have := A.len; omega)]
    exact ⟨b, off + k, by simp [add_plainly], by rw [Nat.add_assoc]; exact hcell⟩
  · intro ad e
    by_cases hc : c = k
    · rw [if_pos hc] at e; exact ⟨ad, e, rfl⟩
    · rw [if_neg hc] at e
      cases a with
      | none => cases e
      | some x =>
        rw [Option.map_some, Option.some.injEq] at e
        refine ⟨x, rfl, ?_⟩
        rw [← e]
        unfold Addr.add
        split <;> rfl
theorem headO_eq (s : ByteArray) : headO s.data.toList = if at_ (spB 32 s) 0 = mk bSystem ∧ actsB ((spB 32 s).drop 1) = true then some ((spB 32 s).drop 1) else none := by
  unfold headO spB
  cases e : sp 32 s.data.toList with
  | nil => exact absurd e (sp_ne _ _)
  | cons h r =>
    have e1 : at_ ((h :: r).map mk) 0 = mk h := rfl
    have e2 : ((h :: r).map mk).drop 1 = r.map mk := rfl
    rw [e1, e2]
    have e3 : (mk h = mk bSystem) ↔ h = bSystem := ⟨fun q => by have := congrArg (fun x : ByteArray => x.data.toList) q; simpa [mk] using this, fun q => by rw [q]⟩
    simp only [e3]
theorem sys_eq (x : ByteArray) : (x.toList == [115, 121, 115, 116, 101, 109]) = decide (x = mk bSystem) := by
  rw [Bool.eq_iff_iff, beq_iff_eq, decide_eq_true_iff, ByteArray.toList_eq]
  constructor
  · intro h
    rw [← mk_of x, h]; rfl
  · rintro rfl
    rfl

end Go.Proofs.YtbncofgbpffmkaaGreatDoor
/- parseState. -/
namespace Go.Proofs.YtbncofgbpffmkaaGreatDoor
open Go.RowKit Pl

theorem edgesO_odd (acts : List ByteArray) : ∀ (x : Nat) (r : List (List UInt8)), r.length = 2 * x + 1 → edgesO acts r = none
  | 0, r, h => by
    match r, h with
    | [a], _ => rfl
  | x + 1, r, h => by
    match r, h with
    | a :: n :: r', h =>
      have ih := edgesO_odd acts x r' (by simp at h; omega)
      unfold edgesO
      rw [ih]
      split
      · rfl
      · split <;> rfl
theorem edgesO_bad {acts : List ByteArray} {a n : List UInt8} {r : List (List UInt8)} (h : Lib.idxOfS acts (mk a) < 0 ∨ numV n = none) : edgesO acts (a :: n :: r) = none := by
  unfold edgesO
  rcases h with h | h
  · rw [if_pos h]
  · split
    · rfl
    · rw [h]
theorem edgesO_good {acts : List ByteArray} {a n : List UInt8} {r : List (List UInt8)} {t : Int} (h : ¬ Lib.idxOfS acts (mk a) < 0) (h2 : numV n = some t) : edgesO acts (a :: n :: r) = (edgesO acts r).map fun l => (Lib.idxOfS acts (mk a), t) :: l := by
  rw [edgesO, if_neg h, h2]
theorem rowO_eq (acts : List ByteArray) (i : Nat) (s : ByteArray) : ∃ r : List (List UInt8), (spB 32 s).drop 1 = r.map mk ∧ (spB 32 s).length = r.length + 1 ∧ rowO acts i s.data.toList = if at_ (spB 32 s) 0 = mk (Lib.decDigits i ++ [58]) then edgesO acts r else none := by
  unfold rowO spB
  cases e : sp 32 s.data.toList with
  | nil => exact absurd e (sp_ne _ _)
  | cons h r =>
    refine ⟨r, rfl, by simp, ?_⟩
    have e1 : at_ ((h :: r).map mk) 0 = mk h := rfl
    rw [e1]
    have e3 : (mk h = mk (Lib.decDigits i ++ [58])) ↔ h = Lib.decDigits i ++ [58] := ⟨fun q => by have := congrArg (fun x : ByteArray => x.data.toList) q; simpa [mk] using this, fun q => by rw [q]⟩
    simp only [e3]
theorem bytes_eq (x y : ByteArray) : (x.toList == y.toList) = decide (x = y) := by
  rw [Bool.eq_iff_iff, beq_iff_eq, decide_eq_true_iff, ByteArray.toList_eq, ByteArray.toList_eq]
  exact ⟨fun h => by rw [← mk_of x, h, mk_of], fun h => by rw [h]⟩
theorem two_src (W : World) (u v : Value) (t : TypeId) : SrcAt (W.alloc (.cells #[u, v] t)) (some ⟨W.heap.size, 0, none⟩) [u, v] := fun j x hx => by
  have hj : j < 2 := by
    have := (List.getElem?_eq_some_iff.1 hx).1
    simpa using this
  refine ⟨_, rfl, ?_⟩
  rw [add_plainly, (Whole.new W t #[u, v]).cell, ← hx]
  match j, hj with
  | 0, _ => rfl
  | 1, _ => rfl

theorem own_up' {w w' : World} {base : Nat} {e : TypeId} {size n : Nat} {v : Value} {xs : List Value} (h : w.ownsRow base e size v n xs) (hb : Below w.heap.size w w') : w'.ownsRow base e size v n xs :=
  h.kept (below_grown' hb) (by cases v.ownBlock <;> simp)
theorem at_in (ws : List ByteArray) (k : Nat) (h : k < ws.length) : at_ ws k ∈ ws := by
  unfold at_
  rw [List.getD_eq_getElem?_getD, List.getElem?_eq_getElem h]
  exact List.getElem_mem h
theorem findV_no {acts : List ByteArray} {X : ByteArray} (ha : actsB acts = true) (h : Lib.idxOfS acts X < 0) : findV acts X = .tuple #[.int .i64 0, .bool false, .int .i64 0] := by
  unfold findV; rw [ha, if_pos rfl, if_neg (by omega)]
theorem findV_yes {acts : List ByteArray} {X : ByteArray} (ha : actsB acts = true) (h : 0 ≤ Lib.idxOfS acts X) : findV acts X = .tuple #[.int .i64 (Lib.idxOfS acts X), .bool true, .int .i64 0] := by
  unfold findV; rw [ha, if_pos rfl, if_pos h]
end Go.Proofs.YtbncofgbpffmkaaGreatDoor
/- A system that a call puts together in a variable of its own, state by state. -/
namespace Go.Proofs.YtbncofgbpffmkaaGreatDoor
open Go.RowKit Pl

/-- the variable at block w2.heap.size holds va and the lists of ss so far; what lay below stands -/
structure SysAcc (w2 : World) (va vs : Value) (ss : List (List Edg)) (wr : World) : Prop where
  out : Whole wr w2.heap.size 25 #[va, vs]
  rows : RowsOwn wr w2.heap.size vs ss
  mid : Below w2.heap.size w2 wr
theorem SysAcc.drew {w2 wr : World} {va vs : Value} {ss : List (List Edg)} (h : SysAcc w2 va vs ss wr) : SysAcc w2 va vs ss wr.drew := ⟨h.out, h.rows, h.mid.drew⟩
theorem SysAcc.below {w2 wr wA : World} {va vs : Value} {ss : List (List Edg)} (h : SysAcc w2 va vs ss wr) (hb : Below wr.heap.size wr wA) : SysAcc w2 va vs ss wA :=
  ⟨h.out.below hb h.out.lt, h.rows.below hb, h.mid.trans (hb.mono h.mid.size)⟩
theorem SysAcc.start (w2 : World) (va : Value) : SysAcc w2 va (.slice none 0 0) [] (w2.alloc (.cells #[va, .slice none 0 0] 25)) :=
  ⟨Whole.new _ _ _, RowsOwn.none _ _, (Below.refl _ w2).alloc (Nat.le_refl _) _⟩
theorem SysAcc.mono_mid {w2 wr : World} {va vs : Value} {ss : List (List Edg)} (h : SysAcc w2 va vs ss wr) {B C : Nat} (h1 : B ≤ w2.heap.size) (h2 : C < B) : Below C w2 wr := h.mid.mono (by omega)
/-- what is known of the variable behind the append -/
theorem SysAcc.grown {w2 wA wB : World} {va vs : Value} {ss : List (List Edg)} (h : SysAcc w2 va vs ss wA) (hg : wA.grownBy wB vs.ownBlock) : Whole wB w2.heap.size 25 #[va, vs] := by
  obtain ⟨rows, r1, r2, r3⟩ := h.rows
  exact h.out.grown hg (own_whole r2 h.out (by decide))
/-- one state more -/
theorem SysAcc.next {w2 wA wB : World} {va vs v1 v2 : Value} {ss : List (List Edg)} {l : List Edg} (h : SysAcc w2 va vs ss wA) (hA : EdgeOwn wA w2.heap.size v1 l) (hg : wA.grownBy wB vs.ownBlock)
    (hB : ∀ rows, wA.ownsRow w2.heap.size 50 1 vs ss.length rows → rows.length = ss.length → wB.ownsRow w2.heap.size 50 1 v2 (ss.length + 1) (rows ++ [v1])) :
    SysAcc w2 va v2 (ss ++ [l]) (wB.setCell ⟨w2.heap.size, 1, none⟩ v2) := by
  have hw := h.grown hg
  obtain ⟨rows, r1, r2, r3⟩ := h.rows
  have hs := RowsOwn.snoc (v' := v2) ⟨rows, r1, r2, r3⟩ hA hg hB
  refine ⟨by simpa using hw.set 1 v2, ?_, (h.mid.grown hg h.mid.size (own_ge r2)).setCell (by simp) _⟩
  exact hs.kept (grown_self wB ⟨w2.heap.size, 1, none⟩ v2) (.inr (own_whole hs.choose_spec.2.1 hw (by decide)).symm) (fun r l hr => .inr (own_whole hr hw (by decide)).symm)
theorem StrArg.kept {w w' : World} {a : Option Addr} {n c : Nat} {ss : List ByteArray} {row : Option Nat} (h : StrArg w a n c ss) (hg : w.grownBy w' row) (hne : ∀ ad, a = some ad → some ad.block ≠ row) : StrArg w' a n c ss :=
  ⟨h.nil, h.len, h.cap, h.big, h.sz, fun j hj => by
    obtain ⟨b, off, e, hc⟩ := h.cells j hj
    refine ⟨b, off, e, ?_⟩
    rw [World.cell?_of_block (hg.block b (lt_of_cell hc) (hne _ e))]
    exact hc⟩
/-- the lists of a system that lies apart from a variable, behind two stores into it -/
theorem rows_stored {w : World} {base g : Nat} {vs x y u v : Value} {ss : List (List Edg)} (h : RowsOwn w base vs ss) (hw : Whole w g 25 #[x, y]) :
    RowsOwn ((w.setCell ⟨g, 0, none⟩ u).setCell ⟨g, 1, none⟩ v) base vs ss := by
  have s1 := h.kept (grown_self w ⟨g, 0, none⟩ u) (.inr (own_whole h.choose_spec.2.1 hw (by decide)).symm) (fun r l hr => .inr (own_whole hr hw (by decide)).symm)
  have hw1 := hw.set 0 u
  exact s1.kept (grown_self _ ⟨g, 1, none⟩ v) (.inr (own_whole s1.choose_spec.2.1 hw1 (by decide)).symm) (fun r l hr => .inr (own_whole hr hw1 (by decide)).symm)
theorem strs_stored {w : World} {a : Option Addr} {n c g : Nat} {ss : List ByteArray} {u v : Value} (h : StrArg w a n c ss) (hne : ∀ ad, a = some ad → ad.block ≠ g) :
    StrArg ((w.setCell ⟨g, 0, none⟩ u).setCell ⟨g, 1, none⟩ v) a n c ss :=
  (h.kept (grown_self w ⟨g, 0, none⟩ u) (fun ad e q => hne ad e (Option.some.inj q))).kept (grown_self _ ⟨g, 1, none⟩ v) (fun ad e q => hne ad e (Option.some.inj q))
theorem sys_nil (w : World) : SysArg w none 0 0 none 0 0 noSys :=
  ⟨⟨fun _ => rfl, rfl, Nat.le_refl _, by omega, fun k hk => by omega, fun j hj => by simp [noSys] at hj⟩, by omega, fun _ => rfl, rfl, Nat.le_refl _, by omega, fun i hi => by simp [noSys] at hi⟩
end Go.Proofs.YtbncofgbpffmkaaGreatDoor
