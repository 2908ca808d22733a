/- Texts joined: Numb, Copy, Split2, PActs. -/
import Derived.Test.YtgnbkepdbdgkdaaGreatDoorJq05
import Derived.WalkSpells
import Derived.Test.YtgnbkepdbdgkdaaGreatDoorJq02
import Derived.Deep.RegionLaw
import Derived.Lib.SlSplitV
/- parseNumber; the reference's Number. -/
namespace Go.Proofs.YtgnbkepdbdgkdaaGreatDoor
open Go.RowKit Pl

def numT (l : List UInt8) : Value := match numV l with | some x => .tuple #[.int .i64 x, .bool true] | none => .tuple #[.int .i64 0, .bool false]
theorem numT_none {l : List UInt8} (h : numV l = none) : numT l = .tuple #[.int .i64 0, .bool false] := by unfold numT; rw [h]
theorem numT_some {l : List UInt8} {x : Int} (h : numV l = some x) : numT l = .tuple #[.int .i64 x, .bool true] := by unfold numT; rw [h]
theorem byte_at (s : ByteArray) (k : Nat) (h : k < s.size) : s.data.toList[k]? = some s[k] := by
  rw [Array.getElem?_toList]; exact Array.getElem?_eq_getElem h
theorem all_dig (s : ByteArray) (h : ∀ k (hk : k < s.size), digB s[k] = true) : s.data.toList.all digB = true := by
  rw [List.all_eq_true]
  intro c hc
  obtain ⟨k, hk, rfl⟩ := List.getElem_of_mem hc
  have := h k (by rw [Lib.size_eq]; exact hk)
  have e : s.data.toList[k] = s[k]'(by rw [Lib.size_eq]; exact hk) := by
    have h1 := byte_at s k (by rw [Lib.size_eq]; exact hk)
    rw [List.getElem?_eq_getElem hk] at h1
    exact Option.some.inj h1
  rw [e]; exact this
theorem not_dig (s : ByteArray) (k : Nat) (hk : k < s.size) (h : digB s[k] = false) : s.data.toList.all digB = false := by
  rw [List.all_eq_false]
  refine ⟨s[k], ?_, by rw [h]; decide⟩
  have h1 := byte_at s k hk
  exact List.mem_of_getElem? h1

set_option maxRecDepth 100000 in
set_option maxHeartbeats 2000000 in
theorem parseNumber_any (s : ByteArray) (hs : s.size ≤ 281474976710656) (w : World) (E : Env w) :
    Calls Tryz.prog 119 #[.string s] w fun e w' => e = .returned (numT s.data.toList) ∧ Below w.heap.size w w' := by
  have HE := Lib.hid E
  clear E
  by_cases h0 : s.size = 0
  · have e : s = ⟨#[]⟩ := by
      apply ByteArray.ext
      exact Array.eq_empty_of_size_eq_zero h0
    subst e
    have HN : Hid (numT (⟨#[]⟩ : ByteArray).data.toList = .tuple #[.int .i64 0, .bool false]) := Lib.hid (numT_none rfl)
    clear h0
    go_enter Tryz.func119, Tryz.ntmps119
    go_wp2
    go_ret2
    exact ⟨by rw [HN.out]; rfl, Below.refl _ _⟩
  · have hp : 0 < s.size := by omega
    have hne : s.toList.isEmpty = false := by
      rw [ByteArray.toList_eq, List.isEmpty_eq_false_iff]
      intro e
      have h9 : s.size = 0 := by rw [Lib.size_eq, e]; rfl
      omega
    have hne2 : ¬ s.toList = [] := by
      intro e
      rw [e] at hne
      cases hne
    clear h0
    have hhead : s.data.toList.head? = some s[0] := by
      rw [← byte_at s 0 hp]; exact List.head?_eq_getElem? ..
    by_cases hl1 : 1 < s.size
    · have hl1' : (1 : Int) < s.size := by omega
      by_cases hl2 : s[0].toNat = 48
      · have h48 : (((s[0].toNat : Nat) : Int) == 48) = true := by rw [beq_iff_eq]; omega
        have HN := Lib.hid (numT_none (numV_lead (l := s.data.toList) (by rw [← Lib.size_eq]; exact hl1) (by rw [hhead]; congr 1; exact UInt8.toNat_inj.1 hl2)))
        clear hl2 hhead
        go_enter Tryz.func119, Tryz.ntmps119
        go_wp2
        go_ret2
        exact ⟨by rw [HN.out]; rfl, Below.refl _ _⟩
      · have h48 : (((s[0].toNat : Nat) : Int) == 48) = false := by rw [beq_eq_false_iff_ne]; omega
        have HL : Hid (¬ (1 < s.data.toList.length ∧ s.data.toList.head? = some 48)) := Lib.hid (by
          rw [hhead]
          rintro ⟨_, e⟩
          apply hl2
          have := Option.some.inj e
          rw [this]; rfl)
        clear hl2 hhead
        go_enter Tryz.func119, Tryz.ntmps119
        go_wp2
        go_loopw [4, 21] (fun _ i wr => ∃ k : Nat, k ≤ s.size ∧ i = .int .i64 k ∧ Hid (∀ j (hj : j < s.size), j < k → digB s[j] = true) ∧ w = wr) (fun _ i _ => s.size - (intOf i).toNat)
        case atStart => exact ⟨0, Nat.zero_le _, rfl, Lib.hid fun j _ hj => absurd hj (Nat.not_lt_zero _), rfl⟩
        case round =>
          obtain ⟨k, hk, rfl, hgood, rfl⟩ := hrel
          by_cases hlt : k < s.size
          · cases hd : digB s[k]
            · have HN := Lib.hid (numT_none (numV_bad (not_dig s k hlt hd)))
              have hd2 : ((s[k].toNat : Nat) : Int) < 48 ∨ (57 : Int) < ((s[k].toNat : Nat) : Int) := by
                have h3 := not_congr (digB_iff s[k])
                rw [hd] at h3
                simp at h3
                omega
              clear hd
              rcases hd2 with hd2 | hd2
              · go_wp2
                go_ret2
                exact ⟨by rw [HN.out]; rfl, Below.refl _ _⟩
              · have hd3 : ¬ ((s[k].toNat : Nat) : Int) < 48 := by omega
                go_wp2
                go_ret2
                exact ⟨by rw [HN.out]; rfl, Below.refl _ _⟩
            · have hd1 := (digB_iff s[k]).1 hd
              have hd2 : (48 : Int) ≤ ((s[k].toNat : Nat) : Int) := by omega
              have hd3 : ((s[k].toNat : Nat) : Int) ≤ 57 := by omega
              have HG : Hid (∀ j (hj : j < s.size), j < k + 1 → digB s[j] = true) := Lib.hid fun j hj hjk => by
                by_cases e : j = k
                · subst e; exact hd
                · exact hgood.out j hj (by omega)
              clear hd hd1
              go_wp2
              go_roundw
              case rel => exact ⟨k + 1, by omega, by go_num, HG, trivial⟩
              case measure => simp [intOf]; omega
          · have hall := all_dig s (fun j hj => hgood.out j hj (by omega))
            have hnn : s.data.toList ≠ [] := by
              intro e
              have h9 : s.size = 0 := by rw [Lib.size_eq, e]; rfl
              omega
            have HN := Lib.hid (numT_some (numV_good hnn HL.out hall))
            obtain ⟨v, HV⟩ : ∃ v, Hid (min (decV s.data.toList : Int) 9223372036854775807 = v) := ⟨_, Lib.hid rfl⟩
            rw [HV.out] at HN
            have HAt := atoi_digits hnn hall
            rw [HV.out] at HAt
            clear hall hnn
            rcases HAt with h1 | ⟨h1, h2⟩
            · have HC := Lib.hid (Tryz.strconv_Atoi_ok s (by omega) v h1 w)
              clear h1
              go_wp2_with fail
              refine HC.out.mono ?_
              rintro e w2 ⟨rfl, hw2⟩
              have hb : Below w.heap.size w w2 := by
                rcases hw2 with rfl | ⟨t, rfl⟩
                · exact Below.refl _ _
                · exact Lib.bytesWorld_below _ _ _
              have HB := Lib.hid hb
              clear hb hw2
              go_wp2
              go_ret2
              exact ⟨by rw [HN.out]; rfl, HB.out⟩
            · obtain ⟨tp, p, hvar⟩ := HE.out.range
              have HC := Tryz.strconv_Atoi_range_var s hs h1 tp p w hvar
              rw [h2] at HC
              have HC := Lib.hid HC
              clear h1 h2 hvar
              go_wp2_with fail
              refine HC.out.mono ?_
              rintro e w2 ⟨N, rfl, _, hw2, hb⟩
              have HB := Lib.hid hb
              clear hb hw2
              go_wp2
              go_ret2
              exact ⟨by rw [HN.out]; rfl, HB.out⟩
    · have hl1' : (s.size : Int) ≤ 1 := by omega
      have HL : Hid (¬ (1 < s.data.toList.length ∧ s.data.toList.head? = some 48)) := Lib.hid (by
        rw [← Lib.size_eq]
        rintro ⟨h, _⟩
        exact hl1 h)
      clear hhead
      go_enter Tryz.func119, Tryz.ntmps119
      go_wp2
      go_loopw [4, 21] (fun _ i wr => ∃ k : Nat, k ≤ s.size ∧ i = .int .i64 k ∧ Hid (∀ j (hj : j < s.size), j < k → digB s[j] = true) ∧ w = wr) (fun _ i _ => s.size - (intOf i).toNat)
      case atStart => exact ⟨0, Nat.zero_le _, rfl, Lib.hid fun j _ hj => absurd hj (Nat.not_lt_zero _), rfl⟩
      case round =>
        obtain ⟨k, hk, rfl, hgood, rfl⟩ := hrel
        by_cases hlt : k < s.size
        · cases hd : digB s[k]
          · have HN := Lib.hid (numT_none (numV_bad (not_dig s k hlt hd)))
            have hd2 : ((s[k].toNat : Nat) : Int) < 48 ∨ (57 : Int) < ((s[k].toNat : Nat) : Int) := by
              have h3 := not_congr (digB_iff s[k])
              rw [hd] at h3
              simp at h3
              omega
            clear hd
            rcases hd2 with hd2 | hd2
            · go_wp2
              go_ret2
              exact ⟨by rw [HN.out]; rfl, Below.refl _ _⟩
            · have hd3 : ¬ ((s[k].toNat : Nat) : Int) < 48 := by omega
              go_wp2
              go_ret2
              exact ⟨by rw [HN.out]; rfl, Below.refl _ _⟩
          · have hd1 := (digB_iff s[k]).1 hd
            have hd2 : (48 : Int) ≤ ((s[k].toNat : Nat) : Int) := by omega
            have hd3 : ((s[k].toNat : Nat) : Int) ≤ 57 := by omega
            have HG : Hid (∀ j (hj : j < s.size), j < k + 1 → digB s[j] = true) := Lib.hid fun j hj hjk => by
              by_cases e : j = k
              · subst e; exact hd
              · exact hgood.out j hj (by omega)
            clear hd hd1
            go_wp2
            go_roundw
            case rel => exact ⟨k + 1, by omega, by go_num, HG, trivial⟩
            case measure => simp [intOf]; omega
        · have hall := all_dig s (fun j hj => hgood.out j hj (by omega))
          have hnn : s.data.toList ≠ [] := by
            intro e
            have h9 : s.size = 0 := by rw [Lib.size_eq, e]; rfl
            omega
          have HN := Lib.hid (numT_some (numV_good hnn HL.out hall))
          obtain ⟨v, HV⟩ : ∃ v, Hid (min (decV s.data.toList : Int) 9223372036854775807 = v) := ⟨_, Lib.hid rfl⟩
          rw [HV.out] at HN
          have HAt := atoi_digits hnn hall
          rw [HV.out] at HAt
          clear hall hnn
          rcases HAt with h1 | ⟨h1, h2⟩
          · have HC := Lib.hid (Tryz.strconv_Atoi_ok s (by omega) v h1 w)
            clear h1
            go_wp2_with fail
            refine HC.out.mono ?_
            rintro e w2 ⟨rfl, hw2⟩
            have hb : Below w.heap.size w w2 := by
              rcases hw2 with rfl | ⟨t, rfl⟩
              · exact Below.refl _ _
              · exact Lib.bytesWorld_below _ _ _
            have HB := Lib.hid hb
            clear hb hw2
            go_wp2
            go_ret2
            exact ⟨by rw [HN.out]; rfl, HB.out⟩
          · obtain ⟨tp, p, hvar⟩ := HE.out.range
            have HC := Tryz.strconv_Atoi_range_var s hs h1 tp p w hvar
            rw [h2] at HC
            have HC := Lib.hid HC
            clear h1 h2 hvar
            go_wp2_with fail
            refine HC.out.mono ?_
            rintro e w2 ⟨N, rfl, _, hw2, hb⟩
            have HB := Lib.hid hb
            clear hb hw2
            go_wp2
            go_ret2
            exact ⟨by rw [HN.out]; rfl, HB.out⟩
end Go.Proofs.YtgnbkepdbdgkdaaGreatDoor
/- The reference's Copy: the same system in new memory. -/
namespace Go.Proofs.YtgnbkepdbdgkdaaGreatDoor
open Go.RowKit Pl

theorem infoString : (Tryz.prog.info? 9).map (fun i => (i.zero, i.size, i.bytes)) = some (some (.string ⟨#[]⟩), 1, 16) := by kernel_rfl
theorem infoEdge : (Tryz.prog.info? 87).map (fun i => (i.zero, i.size, i.bytes)) = some (some (.agg #[.int .i64 0, .int .i64 0]), 2, 16) := by kernel_rfl
theorem infoRow : (Tryz.prog.info? 77).map (fun i => (i.zero, i.size, i.bytes)) = some (some (.slice none 0 0), 1, 24) := by kernel_rfl
theorem row_le (ss : List (List Edg)) (i : Nat) (h : i < ss.length) : (stAt ss i).length ≤ total ss := by
  have h1 := total_take ss i h
  have h2 := total_take_le ss (i + 1)
  omega
theorem strs_src {w : World} {a : Option Addr} {n c : Nat} {ss : List ByteArray} (A : StrArg w a n c ss) : SrcAt w a (ss.map Value.string) := fun j u hu => by
  have hj : j < ss.length := by simpa using (List.getElem?_eq_some_iff.1 hu).1
  obtain ⟨b, off, rfl, hc⟩ := A.cells j hj
  refine ⟨_, rfl, ?_⟩
  rw [add_plainly, hc, ← hu, List.getElem?_map, List.getElem?_eq_getElem hj]
  simp [List.getD, hj]
theorem strs_one (ss : List ByteArray) : ∀ u ∈ ss.map Value.string, u.oneCell' = true := fun u hu => by
  obtain ⟨x, _, rfl⟩ := List.mem_map.1 hu
  rfl
theorem StrArg.nils {w : World} {a : Option Addr} {n c : Nat} {ss : List ByteArray} (A : StrArg w a n c ss) : a = none → n = 0 ∧ c = 0 := fun h => by
  have := A.nil h
  have := A.cap
  omega
theorem EdgeArg.nils {w : World} {a : Option Addr} {n c : Nat} {l : List Edg} (A : EdgeArg w a n c l) : a = none → n = 0 ∧ c = 0 := fun h => by
  have := A.nil h
  have := A.cap
  omega
theorem one_src (W : World) (v : Value) (t : TypeId) : SrcAt (W.alloc (.cells #[v] t)) (some ⟨W.heap.size, 0, none⟩) [v] := fun j u hu => by
  have hj : j = 0 := by
    have := (List.getElem?_eq_some_iff.1 hu).1
    simp at this
    exact this
  subst hj
  simp only [List.getElem?_cons_zero, Option.some.injEq] at hu
  subst hu
  refine ⟨_, rfl, ?_⟩
  rw [add_plainly, (Whole.new W t #[v]).cell]
  rfl

theorem own_slice {W : World} {base : Nat} {e : TypeId} {size n : Nat} {v : Value} {xs : List Value} (h : W.ownsRow base e size v n xs) : ∃ a c, v = .slice a n c := by
  rcases h.2 with ⟨rfl, rfl⟩ | ⟨g, cap, cur, rfl, _⟩
  · exact ⟨none, 0, rfl⟩
  · exact ⟨_, cap, rfl⟩
/-- what a row holds is told by the memory -/
theorem own_eq {W : World} {base base' : Nat} {e e' : TypeId} {size n : Nat} {v : Value} {xs xs' : List Value} (h : W.ownsRow base e size v n xs) (h' : W.ownsRow base' e' size v n xs') : xs = xs' := by
  have l1 := h.1
  have l2 := h'.1
  rcases h.2 with ⟨rfl, h0⟩ | ⟨g, cap, cur, rfl, _, hh, _, _, _, ht⟩
  · subst h0
    rw [List.length_eq_zero_iff.1 (l1.trans (Nat.zero_mul _)), List.length_eq_zero_iff.1 (l2.trans (Nat.zero_mul _))]
  · rcases h'.2 with ⟨h1, h0⟩ | ⟨g', cap', cur', h1, _, hh', _, _, _, ht'⟩
    · cases h1
    · cases h1
      rw [hh] at hh'
      cases hh'
      exact ht.symm.trans ht'
theorem own_up {w w' : World} {base : Nat} {e : TypeId} {size n : Nat} {v : Value} {xs : List Value} (h : w.ownsRow base e size v n xs) (hg : w.grownBy w' none) : w'.ownsRow base e size v n xs :=
  h.kept hg (by cases v.ownBlock <;> simp)
theorem grown_drew {w w' : World} {row : Option Nat} (h : w.drew.grownBy w' row) : w.grownBy w' row := ⟨h.os, h.tape, h.output, h.size, h.block⟩
theorem below_up {w w' : World} (hg : w.grownBy w' none) : Below w.heap.size w w' := (Below.refl _ w).grown hg (Nat.le_refl _) (fun k hk => by cases hk)
theorem below_grown {w w' : World} (hb : Below w.heap.size w w') : w.grownBy w' none := ⟨hb.os, hb.tape, hb.output, hb.size, fun k hk _ => hb.block k hk⟩
theorem pack_at1 {w : World} {g : Nat} {t : TypeId} {x y : Value} (h : Whole w g t #[x, y]) : Whole w g t #[x, y] ∧ w.cell? ⟨g, 1, none⟩ = some y ∧ w.frozen? ⟨g, 1, none⟩ = false := ⟨h, h.cell 1, h.frozen 1⟩
/-- where Copy stands behind j states -/
structure CopyAt (w : World) (B3 : Nat) (box : Array Value) (va : Value) (m : Syst) (j : Nat) (vs : Value) (wr : World) : Prop where
  box : Whole wr w.heap.size 25 box
  res : Whole wr (w.heap.size + 1) 25 #[.slice none 0 0, .slice none 0 0]
  out : Whole wr B3 25 #[va, vs]
  rows : RowsOwn wr w.heap.size vs (m.states.take j)
  acts : wr.ownsRow w.heap.size 9 1 va m.acts.length (m.acts.map Value.string)
  lo : w.heap.size + 1 < B3
  below : Below w.heap.size w wr
/-- one state more -/
theorem CopyAt.next {w wr wA wB : World} {B3 : Nat} {box : Array Value} {va vs v1 v2 : Value} {m : Syst} {j : Nat} {t : TypeId} (h : CopyAt w B3 box va m j vs wr) (hj : j < m.states.length)
    (hA : EdgeOwn wA w.heap.size v1 (stAt m.states j)) (hgA : wr.grownBy wA none) (hgB : (wA.alloc (.cells #[v1] t)).grownBy wB vs.ownBlock)
    (hB : ∀ rows, (wA.alloc (.cells #[v1] t)).ownsRow w.heap.size 77 1 vs j rows → rows.length = j → wB.ownsRow w.heap.size 77 1 v2 (j + 1) (rows ++ [v1])) :
    CopyAt w B3 box va m (j + 1) v2 (wB.setCell ⟨B3, 1, none⟩ v2) := by
  have hl : (m.states.take j).length = j := by rw [List.length_take]; omega
  have bA := below_up hgA
  have bA' := bA.trans (((Below.refl _ wA).alloc (Nat.le_refl _) (.cells #[v1] t)).mono bA.size)
  have rA := h.rows.below bA'
  have oA := own_up (own_up h.acts hgA) (below_grown ((Below.refl _ wA).alloc (Nat.le_refl _) (.cells #[v1] t)))
  obtain ⟨rows, r1, r2, r3⟩ := rA
  have lo := h.lo
  have z := h.out.lt
  have n1 : ∀ g cs, Whole wr g 25 cs → Whole wB g 25 cs := fun g cs hw => by
    have h1 := hw.below bA' hw.lt
    exact h1.grown hgB (own_whole r2 h1 (by decide))
  have hs := RowsOwn.snoc (w := wA.alloc (.cells #[v1] t)) (w' := wB) (v' := v2) ⟨rows, r1, r2, r3⟩ (hA.alloc _) hgB (fun rows' h1 h2 => by
    rw [hl] at h1 h2 ⊢
    exact hB rows' h1 h2)
  have et : m.states.take (j + 1) = m.states.take j ++ [stAt m.states j] := take_next m.states j [] hj
  have hw := n1 _ _ h.out
  have hg2 := grown_self wB ⟨B3, 1, none⟩ v2
  have hb2 : w.heap.size ≤ wB.heap.size := Nat.le_trans (Nat.le_trans h.below.size bA'.size) hgB.size
  refine ⟨(n1 _ _ h.box).far (by simp; omega) _, (n1 _ _ h.res).far (by simp; omega) _, by simpa using hw.set 1 v2, ?_, ?_, lo, ?_⟩
  · rw [et]
    exact hs.kept hg2 (.inr (own_whole hs.choose_spec.2.1 hw (by decide)).symm) (fun r l hr => .inr (own_whole hr hw (by decide)).symm)
  · exact own_stored (oA.kept hgB (own_apart oA r2 (by decide))) hw (by decide)
  · exact ((h.below.trans (bA'.mono h.below.size)).grown hgB (Nat.le_trans h.below.size bA'.size) (own_ge r2)).setCell (by simp; omega) _
theorem CopyAt.drew {w wr : World} {B3 : Nat} {box : Array Value} {va vs : Value} {m : Syst} {j : Nat} (h : CopyAt w B3 box va m j vs wr) : CopyAt w B3 box va m j vs wr.drew :=
  ⟨h.box, h.res, h.out, h.rows, h.acts, h.lo, h.below.drew⟩

set_option maxRecDepth 100000 in
set_option maxHeartbeats 4000000 in
theorem Copy_any {w : World} {a : Option Addr} {n c : Nat} {b : Option Addr} {k d : Nat} {m : Syst} (A : SysArg w a n c b k d m) (hq : m.acts.length + m.states.length + total m.states ≤ 1000000) :
    Calls Tryz.prog 12 #[.agg #[.slice a n c, .slice b k d]] w fun e w' => ∃ va vs, e = .returned (.agg #[va, vs]) ∧ SysOwn w' w.heap.size va vs m ∧ Below w.heap.size w w' := by
  obtain ⟨i0, hi, hz0, hz1, hz2⟩ := info_parts infoString
  obtain ⟨i1, hi1, hz10, hz11, hz12⟩ := info_parts infoEdge
  obtain ⟨i2, hi2, hz20, hz21, hz22⟩ := info_parts infoRow
  have HA := Lib.hid A
  have h1 : n ≤ 1000000 := by have := A.acts.len; omega
  have h2 : k ≤ 1000000 := by have := A.len; omega
  have HQ := Lib.hid hq
  have hB := ((Below.refl w.heap.size w).alloc (Nat.le_refl _) (.cells #[.slice a n c, .slice b k d] 25)).alloc (by simp) (.cells #[.slice none 0 0, .slice none 0 0] 25)
  have HS := Lib.hid (strs_src (A.acts.below hB))
  have HN := Lib.hid A.acts.nils
  have HL : Hid ((m.acts.map Value.string).length = n * 1) := Lib.hid (by have := A.acts.len; simp; omega)
  have HBB := Lib.hid hB
  have HW1 := Lib.hid ((Whole.new w 25 #[.slice a n c, .slice b k d]).alloc (.cells #[.slice none 0 0, .slice none 0 0] 25))
  have HW2 := Lib.hid (Whole.new (w.alloc (.cells #[.slice a n c, .slice b k d] 25)) 25 #[.slice none 0 0, .slice none 0 0])
  clear A hB hq
  go_enter Tryz.func12, Tryz.ntmps12
  go_wp2_with (at_builtin; (refine wpList_append_sz rfl (.const (.slice none 0 0)) (.tmp 7) 22 rfl w.heap.size 9 i0 (.string ⟨#[]⟩) 1 16 Tryz.underlying22 hi hz0 hz1 hz2 rfl (by decide) (.slice none 0 0) rfl 0 [] (World.ownsRow_nil _ _ _ _) a n c rfl (m.acts.map Value.string) HN.out HL.out HS.out (strs_one _) (by unfold maxLen; omega) (by omega) HBB.out.size ?_); intro va w1 hva hg1 hat1; refine Hid.out ?_)
  simp only [Nat.zero_add, List.nil_append] at hva
  obtain ⟨aa, ca, rfl⟩ := own_slice hva
  have hb1 := HBB.out.grown hg1 HBB.out.size (fun k hk => by cases hk)
  have x1 := HW1.out.grown hg1 (fun h => by cases h)
  have x2 := HW2.out.grown hg1 (fun h => by cases h)
  have y1 := x1.cell 1
  simp only [World.size_alloc, List.getElem?_toArray, List.getElem?_cons_succ, List.getElem?_cons_zero] at y1 x2
  have HC : Hid (CopyAt w w1.heap.size #[.slice a n c, .slice b k d] (.slice aa n ca) m 0 (.slice none 0 0) (w1.alloc (.cells #[.slice aa n ca, .slice none 0 0] 25))) :=
    Lib.hid ⟨x1.alloc _, x2.alloc _, Whole.new _ _ _, RowsOwn.none _ _, by have := HA.out.acts.len; rw [← this]; exact hva.alloc _, x2.lt, hb1.alloc hb1.size _⟩
  have y2 := cell_new y1
  clear hva hb1 hg1 hat1 x1 x2 y1
  refine Lib.hid ?_
  go_wp2
  go_loopw [5, 13] (fun _ i wr => ∃ j vs, j ≤ k ∧ i = .int .i64 (j : Nat) ∧ CopyAt w w1.heap.size #[.slice a n c, .slice b k d] (.slice aa n ca) m j vs wr) (fun _ i _ => k - (intOf i).toNat)
  case atStart => exact ⟨0, _, Nat.zero_le _, rfl, HC.out⟩
  case round =>
    obtain ⟨j, vs, hj, rfl, hC⟩ := hrel
    have HC := Lib.hid hC
    obtain ⟨rows, r1, r2, r3⟩ := hC.rows
    have hl : (m.states.take j).length = j := by rw [List.length_take]; have := HA.out.len; omega
    rw [hl] at r1 r2
    obtain ⟨bb, cc, rfl⟩ := own_slice r2
    have z1 := hC.out.cell 0
    have z2 := hC.out.cell 1
    have z3 := hC.out.frozen 1
    have z4 := hC.out.lt
    have z5 := hC.below.size
    have z6 := hC.out
    have HNE := Lib.hid (own_whole r2 hC.out (by decide))
    simp only [List.getElem?_toArray, List.getElem?_cons_succ, List.getElem?_cons_zero] at z1 z2
    clear hC hl
    by_cases hlt : j < k
    · obtain ⟨bx, off, rfl, ai, ni, ci, c1, hE⟩ := (HA.out.rows.below HC.out.below) j (by have := HA.out.len; omega)
      have HE := Lib.hid hE
      have h3 : ni ≤ 1000000 := by have := hE.len; have := row_le m.states j (by have := HA.out.len; omega); have := HQ.out; omega
      have HL1 : Hid ((ecells (stAt m.states j)).length = ni * 2) := Lib.hid (by rw [ecells_length, hE.len])
      have R1 := Lib.hid r1
      have R2 := Lib.hid r2
      have R3 := Lib.hid r3
      clear r1 r2 r3 hE
      go_wp2
      go_region_law (first
        | (refine step_append_sz rfl (.const (.slice none 0 0)) (.tmp 19) 77 (by rfl) w.heap.size 87 i1 (.agg #[.int .i64 0, .int .i64 0]) 2 16 Tryz.underlying77 hi1 hz10 hz11 hz12 rfl (by decide) (.slice none 0 0) (by rfl) 0 [] (World.ownsRow_nil _ _ _ _) ai ni ci (by rfl) (ecells (stAt m.states j)) HE.out.nils HL1.out (edges_src HE.out.cells) (ecells_one _) (by unfold maxLen; omega) (by omega) HC.out.below.size ?_; intro v1 wA hA hgA hatA; clear hatA; simp only [Nat.zero_add, List.nil_append] at hA; obtain ⟨a1, q1, rfl⟩ := own_slice hA; have kW := Whole.grown (w := wr.drew) (w' := wA) z6 hgA (fun h => by cases h); have k1 := kW.cell 1; have k2 := kW.frozen 1; simp only [List.getElem?_toArray, List.getElem?_cons_succ, List.getElem?_cons_zero] at k1; have k3 := cell_new k1)
        | (refine step_append_sz rfl (.tmp 18) (.tmp 21) 23 (by rfl) w.heap.size 77 i2 (.slice none 0 0) 1 24 Tryz.underlying23 hi2 hz20 hz21 hz22 rfl (by decide) (.slice bb j cc) (by rfl) j rows ((own_up (w := wr.drew) R2.out hgA).alloc _) (some ⟨wA.heap.size, 0, none⟩) 1 1 (by rfl) [.slice a1 ni q1] (fun h => by cases h) rfl (one_src _ _ _) (by simp [Value.oneCell']) (by unfold maxLen; omega) (by omega) (Nat.le_trans HC.out.below.size (Nat.le_trans hgA.size (by simp))) ?_; intro v2 wB hB hgB hatB; clear hatB; obtain ⟨a2, q2, rfl⟩ := own_slice hB; have kW2 := (kW.alloc (.cells #[.slice a1 ni q1] 77)).grown (w' := wB) hgB HNE.out; have k4 := kW2.cell 1; have k5 := kW2.frozen 1; simp only [List.getElem?_toArray, List.getElem?_cons_succ, List.getElem?_cons_zero] at k4))
      all_goals
        have HN2 : Hid (CopyAt w w1.heap.size #[.slice a n c, .slice (some ⟨bx, off, none⟩) k d] (.slice aa n ca) m (j + 1) (.slice a2 (j + 1) q2) (wB.setCell ⟨w1.heap.size, 1, none⟩ (.slice a2 (j + 1) q2))) :=
          Lib.hid (HC.out.next (by have := HA.out.len; omega) (by unfold EdgeOwn; rw [← HE.out.len]; exact hA) (grown_drew hgA) hgB (fun rows' e1 e2 => by
            have e3 := own_eq e1 ((own_up (w := wr.drew) R2.out hgA).alloc (.cells #[.slice a1 ni q1] 77))
            rw [e3]; exact hB))
        go_wp2
        go_roundw
        case rel => exact ⟨j + 1, _, by omega, by go_num, HN2.out⟩
        case measure => simp [intOf]; omega
    · obtain rfl : j = k := by omega
      have x0 := HC.out.res.cell 0
      have x1 := HC.out.res.cell 1
      have x2 := HC.out.res.frozen 0
      have x3 := HC.out.res.frozen 1
      have x4 := HC.out.res.lt
      have x5 := HC.out.lo
      simp only [List.getElem?_toArray, List.getElem?_cons_succ, List.getElem?_cons_zero] at x0 x1
      have HR : Hid (SysOwn ((wr.setCell ⟨w.heap.size + 1, 0, none⟩ (.slice aa n ca)).setCell ⟨w.heap.size + 1, 1, none⟩ (.slice bb j cc)) w.heap.size (.slice aa n ca) (.slice bb j cc) m ∧ Below w.heap.size w ((wr.setCell ⟨w.heap.size + 1, 0, none⟩ (.slice aa n ca)).setCell ⟨w.heap.size + 1, 1, none⟩ (.slice bb j cc))) := Lib.hid (by
        have hw := HC.out.res.set 0 (.slice aa n ca)
        have hrows := HC.out.rows
        rw [List.take_of_length_le (by have := HA.out.len; omega)] at hrows
        refine ⟨⟨own_stored (own_stored HC.out.acts HC.out.res (by decide)) hw (by decide), ?_⟩, (HC.out.below.setCell (by simp) _).setCell (by simp) _⟩
        have s1 := hrows.kept (grown_self wr ⟨w.heap.size + 1, 0, none⟩ (.slice aa n ca)) (.inr (own_whole hrows.choose_spec.2.1 HC.out.res (by decide)).symm) (fun r l hr => .inr (own_whole hr HC.out.res (by decide)).symm)
        exact s1.kept (grown_self _ ⟨w.heap.size + 1, 1, none⟩ (.slice bb j cc)) (.inr (own_whole s1.choose_spec.2.1 hw (by decide)).symm) (fun r l hr => .inr (own_whole hr hw (by decide)).symm))
      have g0 := (HC.out.res.set 0 (.slice aa n ca)).cell 0
      have g1 := ((HC.out.res.set 0 (.slice aa n ca)).set 1 (.slice bb j cc)).cell 1
      simp only [List.setIfInBounds_toArray, List.set_cons_zero, List.set_cons_succ, List.getElem?_toArray, List.getElem?_cons_succ, List.getElem?_cons_zero] at g0 g1
      clear r1 r2 r3
      go_wp2
      exact bodyPost_ret (v := .agg #[.slice aa n ca, .slice bb j cc]) (by simp [results, Tryz.results12, go_sem, g0, g1]) rfl ⟨_, _, rfl, HR.out⟩
end Go.Proofs.YtgnbkepdbdgkdaaGreatDoor
/- strings.Split at one byte, strings.TrimSuffix, strings.Clone as the program calls them; parseActions. -/
namespace Go.Proofs.YtgnbkepdbdgkdaaGreatDoor
open Go.RowKit Pl

theorem sp_len (c : UInt8) : ∀ (l : List UInt8), ∀ x ∈ sp c l, x.length ≤ l.length
  | [], x, h => by simp [sp] at h; simp [h]
  | y :: r, x, h => by
    have ih := sp_len c r
    by_cases hc : y = c
    · subst hc
      rw [sp_at] at h
      rcases List.mem_cons.1 h with rfl | h
      · simp
      · have := ih x h; simp; omega
    · obtain ⟨p, ps, h1, h2⟩ := sp_other hc r
      rw [h2] at h
      rw [h1] at ih
      rcases List.mem_cons.1 h with rfl | h
      · have := ih p (by simp); simp; omega
      · have := ih x (by simp [h]); simp; omega
/-- the parts as strings -/
def spB (c : UInt8) (s : ByteArray) : List ByteArray := (sp c s.data.toList).map mk
theorem split_eq (c : UInt8) (s : ByteArray) : Lib.splitB (⟨#[c]⟩ : ByteArray) 0 (Lib.countB s ⟨#[c]⟩) s = spB c s := by
  have h := Lib.splitB_data (⟨#[c]⟩ : ByteArray) 0 (Lib.countB s ⟨#[c]⟩) s
  have h2 : Lib.splitK (⟨#[c]⟩ : ByteArray).data.toList 0 (Lib.countB s ⟨#[c]⟩) s.data.toList = sp c s.data.toList := split_sp c s.data.toList.length s.data.toList (Nat.le_refl _)
  rw [h2] at h
  unfold spB
  rw [← h, List.map_map]
  have : (mk ∘ fun x : ByteArray => x.data.toList) = id := by funext x; exact mk_of x
  rw [this, List.map_id]
theorem spB_at (c : UInt8) (s : ByteArray) (k : Nat) (h : k < (spB c s).length) : at_ (spB c s) k ∈ spB c s := by
  unfold at_
  rw [List.getD_eq_getElem?_getD, List.getElem?_eq_getElem h]
  exact List.getElem_mem h
theorem spB_size {c : UInt8} {s x : ByteArray} (h : x ∈ spB c s) : x.size ≤ s.size := by
  obtain ⟨l, hl, rfl⟩ := List.mem_map.1 h
  rw [mk_size', Lib.size_eq s]
  exact sp_len c _ l hl
theorem spB_pos (c : UInt8) (s : ByteArray) : 0 < (spB c s).length := by
  unfold spB
  rw [List.length_map]
  exact List.length_pos_iff.2 (sp_ne c _)
theorem sp_count (c : UInt8) : ∀ (l : List UInt8), (sp c l).length ≤ l.length + 1
  | [] => by simp [sp]
  | y :: r => by
    have ih := sp_count c r
    by_cases hc : y = c
    · subst hc; rw [sp_at]; simp; omega
    · obtain ⟨p, ps, h1, h2⟩ := sp_other hc r
      rw [h2]; rw [h1] at ih; simp at ih ⊢; omega
theorem spB_count (c : UInt8) (s : ByteArray) : (spB c s).length ≤ s.size + 1 := by
  unfold spB
  rw [List.length_map, Lib.size_eq s]
  exact sp_count c _
theorem strs_new (w : World) (ss : List ByteArray) (hb : ss.length ≤ 9223372036854775807) (hs : ∀ x ∈ ss, x.size ≤ 9223372036854775807) :
    StrArg (w.alloc (.cells (ss.map Value.string).toArray 9)) (some ⟨w.heap.size, 0, none⟩) ss.length ss.length ss := by
  refine ⟨(fun h => by cases h), rfl, Nat.le_refl _, hb, fun k hk => ?_, fun k hk => ⟨w.heap.size, 0, rfl, ?_⟩⟩
  · unfold at_
    rw [List.getD_eq_getElem?_getD, List.getElem?_eq_getElem hk]
    exact hs _ (List.getElem_mem hk)
  · rw [(Whole.new w 9 (ss.map Value.string).toArray).cell]
    simp [List.getD, hk]
theorem split_any (c : UInt8) (s : ByteArray) (hs : s.size ≤ 1000000) (w : World) (E : Env w) :
    Calls Tryz.prog 109 #[.string s, .string ⟨#[c]⟩] w fun e w' => e = .returned (.slice (some ⟨w.heap.size, 0, none⟩) (spB c s).length (spB c s).length) ∧ w.alloc (.cells ((spB c s).map Value.string).toArray 9) = w' := by
  obtain ⟨m, hm⟩ := E.most
  refine (Tryz.strings_Split s ⟨#[c]⟩ m w (by omega) hm (Nat.le_refl 1)).mono fun e w' h => ?_
  obtain ⟨rfl, rfl⟩ := h
  have hlen := Lib.splitB_all (⟨#[c]⟩ : ByteArray) (Nat.le_refl 1) 0 _ s rfl
  rw [split_eq] at hlen ⊢
  exact ⟨by rw [hlen], rfl⟩
theorem trim_any (s : ByteArray) (hs : s.size ≤ 1000000) (w : World) :
    Calls Tryz.prog 110 #[.string s, .string ⟨#[10]⟩] w fun e w' => e = .returned (.string (mk (cut1 s.data.toList))) ∧ w = w' :=
  (Tryz.strings_TrimSuffix s ⟨#[10]⟩ w (by omega)).mono fun e w' h => ⟨h.1, h.2.symm⟩
theorem clone_any (s : ByteArray) (hs : s.size ≤ 1000000) (w : World) :
    Calls Tryz.prog 111 #[.string s] w fun e w' => e = .returned (.string s) ∧ Below w.heap.size w w' := by
  have HC := Lib.hid (Tryz.stringslite_Clone s w (by omega))
  go_enter Tryz.func111, Tryz.ntmps111
  go_wp2_with fail
  refine HC.out.mono ?_
  rintro e w' ⟨rfl, hb⟩
  go_wp2
  go_ret
  exact ⟨rfl, hb⟩
end Go.Proofs.YtgnbkepdbdgkdaaGreatDoor
/- A part of a list of strings; the first line of an object. -/
namespace Go.Proofs.YtgnbkepdbdgkdaaGreatDoor
open Go.RowKit Pl

/-- 'words[k:]' of strings -/
theorem cut_run (a : Option Addr) (n c k : Nat) (h : k ≤ n) (w' : World) : (Instr.slice 22 (.slice a n c) (some (.int .i64 k)) none none).run Tryz.prog w' = .ok (.slice (if c = k then a else a.map fun x => x.add k) (n - k) (c - k)) w' := by
  have h1 : (0 : Int) ≤ k := by omega
  have h2 : (k : Int) ≤ n := by omega
  go_simp
theorem cut_from {w : World} {a : Option Addr} {n c : Nat} {ss : List ByteArray} (A : StrArg w a n c ss) (k : Nat) (h : k ≤ n) :
    ∃ a', (∀ w', (Instr.slice 22 (.slice a n c) (some (.int .i64 k)) none none).run Tryz.prog w' = .ok (.slice a' (n - k) (c - k)) w') ∧ StrArg w a' (n - k) (c - k) (ss.drop k) ∧ ∀ ad, a' = some ad → ∃ ad0, a = some ad0 ∧ ad.block = ad0.block := by
  refine ⟨_, cut_run a n c k h, ⟨?_, by rw [List.length_drop, A.len], by have := A.cap; omega, by have := A.big; omega, fun j hj => ?_, fun j hj => ?_⟩, ?_⟩
  · intro e
    by_cases hc : c = k
    · omega
    · rw [if_neg hc] at e
      cases a with
      | none => have := A.nil rfl; omega
      | some x => cases e
  · have e : at_ (ss.drop k) j = at_ ss (k + j) := by simp [at_, List.getD]
    rw [e]
    exact A.sz _ (by omega)
  · rw [List.length_drop] at hj
    obtain ⟨b, off, rfl, hcell⟩ := A.cells (k + j) (by omega)
    have e : (ss.drop k).getD j ByteArray.empty = ss.getD (k + j) ByteArray.empty := by simp [List.getD]
    rw [e, if_neg (by have := A.cap; have := A.len; omega)]
    exact ⟨b, off + k, by simp [add_plainly], by rw [Nat.add_assoc]; exact hcell⟩
  · intro ad e
    by_cases hc : c = k
    · rw [if_pos hc] at e; exact ⟨ad, e, rfl⟩
    · rw [if_neg hc] at e
      cases a with
      | none => cases e
      | some x =>
        rw [Option.map_some, Option.some.injEq] at e
        refine ⟨x, rfl, ?_⟩
        rw [← e]
        unfold Addr.add
        split <;> rfl
theorem headO_eq (s : ByteArray) : headO s.data.toList = if at_ (spB 32 s) 0 = mk bSystem ∧ actsB ((spB 32 s).drop 1) = true then some ((spB 32 s).drop 1) else none := by
  unfold headO spB
  cases e : sp 32 s.data.toList with
  | nil => exact absurd e (sp_ne _ _)
  | cons h r =>
    have e1 : at_ ((h :: r).map mk) 0 = mk h := rfl
    have e2 : ((h :: r).map mk).drop 1 = r.map mk := rfl
    rw [e1, e2]
    have e3 : (mk h = mk bSystem) ↔ h = bSystem := ⟨fun q => by have := congrArg (fun x : ByteArray => x.data.toList) q; simpa [mk] using this, fun q => by rw [q]⟩
    simp only [e3]
theorem sys_eq (x : ByteArray) : (x.toList == [115, 121, 115, 116, 101, 109]) = decide (x = mk bSystem) := by
  rw [Bool.eq_iff_iff, beq_iff_eq, decide_eq_true_iff, ByteArray.toList_eq]
  constructor
  · intro h
    rw [← mk_of x, h]; rfl
  · rintro rfl
    rfl

end Go.Proofs.YtgnbkepdbdgkdaaGreatDoor
