/- copied, and what an owned row of strings or numbers is good for. -/
import Derived.Test.YtcbmlchlllpnoaaDoorAwake
namespace Go.Proofs.YtcbmlchlllpnoaaDoor
open Go.RowKit Pl

theorem strs_of_row {w : World} {base : Nat} {v : Value} {n : Nat} {ss : List ByteArray} (h : w.ownsRow base 9 1 v n (ss.map Value.string)) (hn : n = ss.length) (hbig : n ≤ 9223372036854775807) (hs : ∀ k, k < n → (at_ ss k).size ≤ 9223372036854775807) :
    ∃ a c, v = .slice a n c ∧ StrArg w a n c ss := by
  rcases h.2 with ⟨rfl, rfl⟩ | ⟨g, cap, cur, rfl, hg, hh, hc, hm, hz, ht⟩
  · exact ⟨none, 0, rfl, fun _ => rfl, hn, Nat.le_refl _, hbig, hs, fun j hj => by omega⟩
  · refine ⟨some ⟨g, 0, none⟩, cap, rfl, (fun h => by cases h), hn, hc, hbig, hs, fun j hj => ⟨g, 0, rfl, ?_⟩⟩
    have h9 := h.cells rfl j (.string (ss.getD j ByteArray.empty)) (by rw [List.getElem?_map, List.getElem?_eq_getElem hj]; simp [List.getD, hj])
    rw [addr_add] at h9
    rw [Nat.zero_add]
    exact h9
theorem ints_of_row {w : World} {base : Nat} {v : Value} {n : Nat} {xs : List Int} (h : w.ownsRow base 3 1 v n (xs.map (Value.int .i64))) (hn : n = xs.length) (hbig : n ≤ 9223372036854775807) :
    ∃ a c, v = .slice a n c ∧ IntArg w a n c xs := by
  rcases h.2 with ⟨rfl, rfl⟩ | ⟨g, cap, cur, rfl, hg, hh, hc, hm, hz, ht⟩
  · exact ⟨none, 0, rfl, fun _ => rfl, hn, Nat.le_refl _, hbig, fun j hj => by omega⟩
  · refine ⟨some ⟨g, 0, none⟩, cap, rfl, (fun h => by cases h), hn, hc, hbig, fun j hj => ⟨g, 0, rfl, ?_⟩⟩
    have h9 := h.cells rfl j (.int .i64 (xs.getD j 0)) (by rw [List.getElem?_map, List.getElem?_eq_getElem hj]; simp [List.getD, hj])
    rw [addr_add] at h9
    rw [Nat.zero_add]
    exact h9

theorem add_off (b off j : Nat) : (⟨b, off, none⟩ : Addr).add j = ⟨b, off + j, none⟩ := by
  unfold Addr.add
  by_cases h : j = 0
  · rw [if_pos h, h, Nat.add_zero]
  · rw [if_neg h]
theorem cells_at {w : World} {ad : Addr} {n c : Nat} {ss : List ByteArray} (A : StrArg w (some ad) n c ss) : ∀ j u, (ss.map Value.string)[j]? = some u → w.cell? (ad.add j) = some u := fun j u h => by
  rw [List.getElem?_map, Option.map_eq_some_iff] at h
  obtain ⟨x, hx, rfl⟩ := h
  have hj : j < ss.length := (List.getElem?_eq_some_iff.1 hx).1
  obtain ⟨b, off, e, hc⟩ := A.cells j hj
  cases e
  rw [add_off, hc, List.getD_eq_getElem?_getD, hx]
  rfl

set_option maxRecDepth 100000 in
set_option maxHeartbeats 1000000 in
theorem copied_row {w : World} {a : Option Addr} {n c : Nat} {ss : List ByteArray} (A : StrArg w a n c ss) (hr : n * 16 ≤ 140737488351232) :
    Calls Tryd.prog 11 #[.slice a n c] w fun e w' => ∃ v, e = .returned v ∧ w'.ownsRow w.heap.size 9 1 v n (ss.map Value.string) ∧ Below w.heap.size w w' := by
  obtain ⟨i0, hi, hz0, hz1, hz2⟩ := info_parts infoStr
  have HA := Lib.hid A
  clear A
  cases a with
  | none =>
    have hn : n = 0 := by
      by_cases h : 0 < n
      · obtain ⟨b, off, h1, _⟩ := HA.out.cells 0 (by have := HA.out.len; omega)
        cases h1
      · omega
    subst hn
    obtain rfl := HA.out.nil rfl
    have he : ss = [] := List.length_eq_zero_iff.1 HA.out.len.symm
    subst he
    clear HA
    go_enter Tryd.func11, Tryd.ntmps11
    go_wp2
    go_ret
    exact ⟨_, rfl, World.ownsRow_nil _ _ _ _, Below.refl _ _⟩
  | some ad =>
    have H1 : Hid ((ss.map Value.string).length = n * 1) := Lib.hid (by have := HA.out.len; simp; omega)
    have H2 := Lib.hid (cells_at HA.out)
    have H3 : Hid (∀ u ∈ ss.map Value.string, u.oneCell' = true) := Lib.hid fun u hu => by
      rw [List.mem_map] at hu
      obtain ⟨x, _, rfl⟩ := hu
      rfl
    have H4 : Hid (0 + n ≤ maxLen) := Lib.hid (by unfold maxLen; omega)
    go_enter Tryd.func11, Tryd.ntmps11
    go_wp2_with (at_builtin; (refine wpList_append_own _ rfl _ _ 22 rfl w.heap.size 9 i0 (.string ⟨#[]⟩) 1 16 Tryd.underlying22 hi hz0 hz1 hz2 rfl (by decide) _ 0 [] rfl (World.ownsRow_nil _ _ _ _) ad n c (ss.map Value.string) rfl H1.out H2.out H3.out H4.out (by omega) (Nat.le_refl _) ?_); intro v' w1 hown hgrow hnil)
    go_ret
    exact ⟨v', rfl, by simpa using hown, (Below.refl _ _).grown hgrow (Nat.le_refl _) (fun k e => by cases e)⟩

/-- copied: the same list in new memory -/
theorem copied_any {w : World} {a : Option Addr} {n c : Nat} {ss : List ByteArray} (A : StrArg w a n c ss) (hr : n * 16 ≤ 140737488351232) :
    Calls Tryd.prog 11 #[.slice a n c] w fun e w' => ∃ a' c', e = .returned (.slice a' n c') ∧ StrArg w' a' n c' ss ∧ Below w.heap.size w w' := by
  refine (copied_row A hr).mono ?_
  rintro e w' ⟨v, rfl, hrow, hb⟩
  obtain ⟨a', c', rfl, hA⟩ := strs_of_row hrow A.len A.big A.sz
  exact ⟨a', c', rfl, hA, hb⟩
end Go.Proofs.YtcbmlchlllpnoaaDoor
