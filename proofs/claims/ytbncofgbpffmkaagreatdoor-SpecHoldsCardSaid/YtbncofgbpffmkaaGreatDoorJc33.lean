/- Texts joined: CrowdPl, Fit. -/
import Derived.Test.YtbncofgbpffmkaaGreatDoorJc21
import Derived.Test.YtbncofgbpffmkaaGreatDoorJc23
import Derived.Test.YtbncofgbpffmkaaGreatDoorJc20
import Derived.Test.YtbncofgbpffmkaaGreatDoorJc31
/- Plain facts: the states in which a system may be, in the order in which they are met; nothing here is about a program. -/
namespace Go.Proofs.YtbncofgbpffmkaaGreatDoor.Pl
open Go Go.Lib

def cAdd (l : List Nat) (y : Nat) : List Nat := if y ∈ l then l else l ++ [y]
def crE (a : Int) (acc : List Nat) (es : List Edg) : List Nat := es.foldl (fun acc e => if e.1 = a then cAdd acc e.2.toNat else acc) acc
def crN (ss : List (List Edg)) (l : List Nat) (a : Int) (acc : List Nat) : List Nat := l.foldl (fun acc x => crE a acc (stAt ss x)) acc
theorem cAdd_mem (l : List Nat) (y z : Nat) : z ∈ cAdd l y ↔ z ∈ l ∨ z = y := by
  unfold cAdd
  split
  · rename_i h
    constructor
    · exact .inl
    · rintro (h1 | rfl)
      · exact h1
      · exact h
  · simp
/-- no state twice, each one of the system's -/
def CrOk (k : Nat) (l : List Nat) : Prop := l.Nodup ∧ ∀ y ∈ l, y < k
theorem CrOk.nil (k : Nat) : CrOk k [] := ⟨List.nodup_nil, fun y h => by simp at h⟩
theorem CrOk.add {k : Nat} {l : List Nat} (h : CrOk k l) {y : Nat} (hy : y < k) : CrOk k (cAdd l y) := by
  refine ⟨?_, fun z hz => ?_⟩
  · unfold cAdd
    split
    · exact h.1
    · rename_i hn
      rw [List.nodup_append]
      refine ⟨h.1, by simp, ?_⟩
      intro a ha b hb e
      rw [List.mem_singleton] at hb
      subst hb
      subst e
      exact hn ha
  · rcases (cAdd_mem l y z).1 hz with h1 | rfl
    · exact h.2 z h1
    · exact hy
theorem nodup_le : ∀ (k : Nat) (l : List Nat), l.Nodup → (∀ y ∈ l, y < k) → l.length ≤ k
  | 0, l, _, h => by
    cases l with
    | nil => exact Nat.le_refl _
    | cons x l => exact absurd (h x (List.mem_cons_self ..)) (by omega)
  | k + 1, l, hn, h => by
    have h1 := nodup_le k (l.erase k) (hn.erase k) (fun y hy => by
      rw [hn.mem_erase_iff] at hy
      have := h y hy.2
      omega)
    have h2 := List.length_erase (a := k) (l := l)
    split at h2 <;> omega
theorem CrOk.len {k : Nat} {l : List Nat} (h : CrOk k l) : l.length ≤ k := nodup_le k l h.1 h.2
theorem crE_snoc (a : Int) (acc : List Nat) (es : List Edg) (e : Edg) : crE a acc (es ++ [e]) = if e.1 = a then cAdd (crE a acc es) e.2.toNat else crE a acc es := by simp [crE]
theorem crN_snoc (ss : List (List Edg)) (l : List Nat) (a : Int) (acc : List Nat) (x : Nat) : crN ss (l ++ [x]) a acc = crE a (crN ss l a acc) (stAt ss x) := by simp [crN]
theorem crE_mem (a : Int) (z : Nat) : ∀ (es : List Edg) (acc : List Nat), z ∈ crE a acc es ↔ z ∈ acc ∨ ∃ e ∈ es, e.1 = a ∧ e.2.toNat = z
  | [], acc => by simp [crE]
  | e :: es, acc => by
    have ih := crE_mem a z es (if e.1 = a then cAdd acc e.2.toNat else acc)
    have e1 : crE a acc (e :: es) = crE a (if e.1 = a then cAdd acc e.2.toNat else acc) es := rfl
    rw [e1, ih]
    by_cases h : e.1 = a
    · rw [if_pos h, cAdd_mem]
      constructor
      · rintro ((h1 | rfl) | ⟨f, h1, h2⟩)
        · exact .inl h1
        · exact .inr ⟨e, List.mem_cons_self .., h, rfl⟩
        · exact .inr ⟨f, List.mem_cons_of_mem _ h1, h2⟩
      · rintro (h1 | ⟨f, h1, h2, rfl⟩)
        · exact .inl (.inl h1)
        · rcases List.mem_cons.1 h1 with rfl | h1
          · exact .inl (.inr rfl)
          · exact .inr ⟨f, h1, h2, rfl⟩
    · rw [if_neg h]
      constructor
      · rintro (h1 | ⟨f, h1, h2⟩)
        · exact .inl h1
        · exact .inr ⟨f, List.mem_cons_of_mem _ h1, h2⟩
      · rintro (h1 | ⟨f, h1, h2, h3⟩)
        · exact .inl h1
        · rcases List.mem_cons.1 h1 with rfl | h1
          · exact absurd h2 h
          · exact .inr ⟨f, h1, h2, h3⟩
theorem crN_mem (ss : List (List Edg)) (a : Int) (z : Nat) : ∀ (l acc : List Nat), z ∈ crN ss l a acc ↔ z ∈ acc ∨ ∃ x ∈ l, ∃ e ∈ stAt ss x, e.1 = a ∧ e.2.toNat = z
  | [], acc => by simp [crN]
  | x :: l, acc => by
    have ih := crN_mem ss a z l (crE a acc (stAt ss x))
    have e1 : crN ss (x :: l) a acc = crN ss l a (crE a acc (stAt ss x)) := rfl
    rw [e1, ih, crE_mem]
    constructor
    · rintro ((h1 | h1) | ⟨y, h1, h2⟩)
      · exact .inl h1
      · exact .inr ⟨x, List.mem_cons_self .., h1⟩
      · exact .inr ⟨y, List.mem_cons_of_mem _ h1, h2⟩
    · rintro (h1 | ⟨y, h1, h2⟩)
      · exact .inl (.inl h1)
      · rcases List.mem_cons.1 h1 with rfl | h1
        · exact .inl (.inr h2)
        · exact .inr ⟨y, h1, h2⟩
theorem mem_edAt {l : List Edg} {e : Edg} (h : e ∈ l) : ∃ t, t < l.length ∧ edAt l t = e := by
  obtain ⟨t, ht, rfl⟩ := List.getElem_of_mem h
  exact ⟨t, ht, by simp [edAt, List.getD, ht]⟩
/-- the same states as the reference's -/
theorem crN_next {m : Syst} (hm : sysB m = true) {l l' : List Nat} (hl : ∀ x ∈ l, x < m.states.length) (hs : ∀ x, x ∈ l ↔ x ∈ l') (a : Int) (z : Nat) : z ∈ crN m.states l a [] ↔ z ∈ nextL m.states l' a := by
  rw [crN_mem]
  constructor
  · rintro (h | ⟨x, hx, e, he, h1, h2⟩)
    · simp at h
    · obtain ⟨t, ht, rfl⟩ := mem_edAt he
      have h3 := edge_ok hm (hl x hx) ht
      exact next_has ((hs x).1 hx) ht h1 (by omega) (by omega)
  · intro h
    obtain ⟨x, hx, t, ht, h1, h2⟩ := next_from h
    exact .inr ⟨x, (hs x).2 hx, edAt (stAt m.states x) t, edAt_mem ht, h1, by rw [h2]; simp⟩
theorem crE_ok {m : Syst} (hm : sysB m = true) {x : Nat} (hx : x < m.states.length) (a : Int) {acc : List Nat} (h : CrOk m.states.length acc) : ∀ j, j ≤ (stAt m.states x).length → CrOk m.states.length (crE a acc ((stAt m.states x).take j))
  | 0, _ => by simpa [crE] using h
  | j + 1, hj => by
    have ih := crE_ok hm hx a h j (by omega)
    have hj' : j < (stAt m.states x).length := by omega
    rw [List.take_succ_eq_append_getElem hj', crE_snoc]
    split
    · have h3 := edge_ok hm hx hj'
      have e2 : edAt (stAt m.states x) j = (stAt m.states x)[j] := by simp [edAt, List.getD, hj']
      rw [e2] at h3
      exact ih.add (by omega)
    · exact ih
theorem crE_next {es : List Edg} {j : Nat} (hj : j < es.length) (a : Int) (acc : List Nat) : crE a acc (es.take (j + 1)) = if (edAt es j).1 = a then cAdd (crE a acc (es.take j)) (edAt es j).2.toNat else crE a acc (es.take j) := by
  have e2 : edAt es j = es[j] := by simp [edAt, List.getD, hj]
  rw [List.take_succ_eq_append_getElem hj, crE_snoc, e2]
theorem crN_next' {ss : List (List Edg)} {l : List Nat} {r x : Nat} (h : l[r]? = some x) (a : Int) : crN ss (l.take (r + 1)) a [] = crE a (crN ss (l.take r) a []) (stAt ss x) := by
  obtain ⟨hr, rfl⟩ := List.getElem?_eq_some_iff.1 h
  rw [List.take_succ_eq_append_getElem hr, crN_snoc]
theorem crN_ok {m : Syst} (hm : sysB m = true) {l : List Nat} (hl : ∀ x ∈ l, x < m.states.length) (a : Int) : ∀ r, CrOk m.states.length (crN m.states (l.take r) a [])
  | 0 => by simpa [crN] using CrOk.nil _
  | r + 1 => by
    rcases Nat.lt_or_ge r l.length with h | h
    · rw [crN_next' (List.getElem?_eq_getElem h)]
      have h1 := crE_ok hm (hl l[r] (List.getElem_mem h)) a (crN_ok hm hl a r) _ (Nat.le_refl _)
      rwa [List.take_length] at h1
    · rw [List.take_of_length_le (by omega)]
      have := crN_ok hm hl a r
      rwa [List.take_of_length_le h] at this

/-! ### along a word -/
def faultC (m : Syst) (s : Spc) : List Int → List Nat → Int → Option (List Nat × Int)
  | [], l, y => some (l, y)
  | a :: w, l, y => if badB m s l y = true then none else if crN m.states l a [] = [] then none else faultC m s w (crN m.states l a []) (nextI s y a)
def endC (m : Syst) (s : Spc) (at_ : Int) : Option (List Nat × Int) → Bool
  | none => false
  | some (l, y) => decide (at_ ∈ l.map (fun (x : Nat) => (x : Int))) && !goodB m s at_.toNat y
theorem endC_empty (m : Syst) (s : Spc) (at_ : Int) : ∀ (w : List Int) (y : Int), endC m s at_ (faultF m s w [] y) = false
  | [], y => by simp [faultF, endC]
  | a :: w, y => by rw [faultF_stop (.inl rfl)]; rfl
theorem badB_set {m : Syst} {s : Spc} {l l' : List Nat} (h : ∀ x, x ∈ l ↔ x ∈ l') (y : Int) : badB m s l y = badB m s l' y := by
  unfold badB
  rw [Bool.eq_iff_iff, List.any_eq_true, List.any_eq_true]
  constructor
  · rintro ⟨x, h1, h2⟩; exact ⟨x, (h x).1 h1, h2⟩
  · rintro ⟨x, h1, h2⟩; exact ⟨x, (h x).2 h1, h2⟩
theorem good_fit {m : Syst} {s : Spc} {l : List Nat} {y : Int} (h : ¬ badB m s l y = true) {x : Nat} (hx : x ∈ l) : 0 ≤ y ∧ fitB m s x y.toNat = true := by
  unfold badB at h
  rw [List.any_eq_true] at h
  have h1 : goodB m s x y = true := by
    cases e : goodB m s x y
    · exact absurd ⟨x, hx, by rw [e]; rfl⟩ h
    · rfl
  unfold goodB at h1
  rw [Bool.and_eq_true, decide_eq_true_eq] at h1
  exact h1
theorem actsK_cons (n : Nat) (a : Int) (w : List Int) : actsK n (a :: w) = (decide (0 ≤ a ∧ a < n) && actsK n w) := by
  rw [Bool.eq_iff_iff, Bool.and_eq_true, decide_eq_true_eq, actsK_iff, actsK_iff]
  constructor
  · intro h
    exact ⟨h 0 (by simp), fun k hk => h (k + 1) (by simpa using hk)⟩
  · rintro ⟨h1, h2⟩ k hk
    cases k with
    | zero => exact h1
    | succ k => exact h2 k (by simpa using hk)
theorem step_some {m : Syst} {s : Spc} (hm : sysB m = true) (hs : spcB s = true) {l : List Nat} {y a : Int} (hl : ∀ x ∈ l, x < m.states.length) (hy : 0 ≤ y ∧ y < s.states.length) (hb : ¬ badB m s l y = true) (hn : crN m.states l a [] ≠ []) :
    (0 ≤ a ∧ a < m.acts.length) ∧ 0 ≤ nextI s y a ∧ nextI s y a < s.states.length ∧ a.toNat < (teAt s.states y.toNat).2.length := by
  obtain ⟨z, hz⟩ := List.exists_mem_of_ne_nil _ hn
  rw [crN_mem] at hz
  rcases hz with h | ⟨x, hx, e, he, h1, h2⟩
  · simp at h
  · obtain ⟨t, ht, rfl⟩ := mem_edAt he
    have h3 := edge_ok hm (hl x hx) ht
    have h4 := fit_next hm hs (hl x hx) (y := y.toNat) (by omega) (good_fit hb hx).2 ht
    rw [h1] at h3 h4
    exact ⟨⟨h3.1, h3.2.1⟩, h4.2.1, h4.2.2, h4.1⟩
theorem faultC_eq {m : Syst} {s : Spc} (hm : sysB m = true) (hs : spcB s = true) (at_ : Int) : ∀ (w : List Int) (l l' : List Nat) (y : Int), (∀ x ∈ l, x < m.states.length) → (∀ x, x ∈ l ↔ x ∈ l') → l ≠ [] → 0 ≤ y ∧ y < s.states.length →
    endC m s at_ (faultC m s w l y) = (actsK m.acts.length w && endC m s at_ (faultF m s w l' y))
  | [], l, l', y, _, hss, _, _ => by
    have e : (at_ ∈ l.map (fun (x : Nat) => (x : Int))) ↔ (at_ ∈ l'.map (fun (x : Nat) => (x : Int))) := by
      rw [List.mem_map, List.mem_map]
      constructor
      · rintro ⟨x, h1, h2⟩; exact ⟨x, (hss x).1 h1, h2⟩
      · rintro ⟨x, h1, h2⟩; exact ⟨x, (hss x).2 h1, h2⟩
    rw [show actsK m.acts.length [] = true from rfl, Bool.true_and]
    show (decide (at_ ∈ l.map (fun (x : Nat) => (x : Int))) && !goodB m s at_.toNat y) = (decide (at_ ∈ l'.map (fun (x : Nat) => (x : Int))) && !goodB m s at_.toNat y)
    rw [decide_eq_decide.2 e]
  | a :: w, l, l', y, hl, hss, hne, hy => by
    have hne' : l' ≠ [] := fun e => by
      obtain ⟨x, hx⟩ := List.exists_mem_of_ne_nil _ hne
      rw [hss, e] at hx
      simp at hx
    rw [faultC]
    by_cases hb : badB m s l y = true
    · have hb' : badB m s l' y = true := by rw [← badB_set hss]; exact hb
      rw [if_pos hb, faultF_stop (.inr hb')]
      show false = _
      rw [show endC m s at_ none = false from rfl, Bool.and_false]
    · have hb' : ¬ (l' = [] ∨ badB m s l' y = true) := by
        rintro (e | e)
        · exact hne' e
        · rw [← badB_set hss] at e
          exact hb e
      rw [if_neg hb]
      by_cases hn : crN m.states l a [] = []
      · rw [if_pos hn]
        have hn' : nextL m.states l' a = [] := by
          cases e : nextL m.states l' a with
          | nil => rfl
          | cons z r =>
            have := (crN_next hm hl hss a z).2 (by rw [e]; exact List.mem_cons_self ..)
            rw [hn] at this
            simp at this
        show false = _
        by_cases hlost : nextI s y a < 0 ∧ nextL m.states l' a = []
        · rw [faultF_lost hb' hlost, show endC m s at_ none = false from rfl, Bool.and_false]
        · rw [faultF_go hb' hlost, hn', endC_empty, Bool.and_false]
      · rw [if_neg hn]
        obtain ⟨h1, h2, h3, _⟩ := step_some hm hs hl hy hb hn
        rw [faultF_go hb' (fun q => by omega), faultC_eq hm hs at_ w (crN m.states l a []) (nextL m.states l' a) (nextI s y a) (fun x hx => nextL_lt x ((crN_next hm hl hss a x).1 hx)) (fun x => crN_next hm hl hss a x) hn ⟨h2, h3⟩, actsK_cons, decide_eq_true h1, Bool.true_and]
theorem faultB_crowd {m : Syst} {s : Spc} (hm : sysB m = true) (hs : spcB s = true) (word : List Int) (at_ : Int) : faultB m s word at_ = endC m s at_ (faultC m s word [0] 0) := by
  have h1 := ((sysB_iff m).1 hm).2.1
  have h2 := ((spcB_iff s).1 hs).2.1
  rw [faultC_eq hm hs at_ word [0] [0] 0 (fun x hx => by rw [List.mem_singleton] at hx; omega) (fun _ => Iff.rfl) (by simp) ⟨Int.le_refl _, by omega⟩]
  unfold faultB
  congr 1
end Go.Proofs.YtbncofgbpffmkaaGreatDoor.Pl
/- slices.Contains at numbers; spec: allFit, by slices.ContainsFunc at a function literal. -/
namespace Go.Proofs.YtbncofgbpffmkaaGreatDoor
open Go.RowKit Pl

set_option maxHeartbeats 1000000 in
theorem idxI_any {w : World} {a : Option Addr} {n c : Nat} {xs : List Int} (A : IntArg w a n c xs) (x : Int) :
    Calls Tryz.prog 76 #[.slice a n c, .int .i64 x] w fun e w' => ∃ i : Int, e = .returned (.int .i64 i) ∧ -1 ≤ i ∧ (0 ≤ i ↔ x ∈ xs) ∧ w = w' := by
  have HA := Lib.hid A
  have hn : n ≤ 9223372036854775807 := A.big
  clear A
  go_enter Tryz.func76, Tryz.ntmps76
  go_wp2
  go_loop [5, 8] (fun _ p => ∃ j : Nat, j ≤ n ∧ p = .int .i64 j ∧ Hid (x ∉ xs.take j)) (fun _ p => n - (intOf p).toNat)
  case atStart => exact ⟨0, Nat.zero_le _, rfl, Lib.hid (by simp)⟩
  case round =>
    obtain ⟨j, hj, rfl, hne⟩ := hrel
    by_cases hlt : j < n
    · have hjx : j < xs.length := by have := HA.out.len; omega
      obtain ⟨b, off, rfl, c1⟩ := HA.out.cells j hjx
      obtain ⟨y, HY⟩ : ∃ y, Hid (xs.getD j 0 = y) := ⟨_, Lib.hid rfl⟩
      change w.cell? _ = some (.int .i64 (xs.getD j 0)) at c1
      rw [HY.out] at c1
      have HT := Lib.hid (take_next xs j 0 hjx)
      have hj0 : (0 : Int) ≤ (j : Int) := by omega
      have hj1 : (j : Int) < (n : Int) := by omega
      by_cases he : x = y
      · have hq : (x == y) = true := by rw [he]; simp
        have HM : Hid (decide (x ∈ xs) = true) := Lib.hid (decide_eq_true (by
          rw [he, ← HY.out, List.getD_eq_getElem?_getD, List.getElem?_eq_getElem hjx]
          exact List.getElem_mem hjx))
        subst he
        go_wp2
        go_ret
        exact ⟨j, rfl, by omega, ⟨fun _ => of_decide_eq_true HM.out, fun _ => by omega⟩, rfl⟩
      · have hq : (x == y) = false := by rw [beq_eq_false_iff_ne]; exact he
        have HN : Hid (x ∉ xs.take (j + 1)) := Lib.hid (by
          rw [HT.out, List.mem_append, List.mem_singleton, HY.out]
          rintro (h | h)
          · exact hne.out h
          · exact he h)
        clear hjx
        go_wp2
        go_round
        case rel => exact ⟨j + 1, by omega, by go_num, HN⟩
        case measure => simp [intOf]; omega
    · have HM : Hid (decide (x ∈ xs) = false) := Lib.hid (decide_eq_false (by
        have := hne.out
        rwa [List.take_of_length_le (by have := HA.out.len; omega)] at this))
      go_wp2
      go_ret
      exact ⟨-1, rfl, by omega, ⟨fun h => by omega, fun h => absurd h (of_decide_eq_false HM.out)⟩, rfl⟩
set_option maxHeartbeats 1000000 in
theorem hasI_any {w : World} {a : Option Addr} {n c : Nat} {xs : List Int} (A : IntArg w a n c xs) (x : Int) :
    Calls Tryz.prog 56 #[.slice a n c, .int .i64 x] w fun e w' => e = .returned (.bool (decide (x ∈ xs))) ∧ w = w' := by
  have HC := Lib.hid (idxI_any A x)
  clear A
  obtain ⟨q, HQ⟩ : ∃ q, Hid (decide (x ∈ xs) = q) := ⟨_, Lib.hid rfl⟩
  go_enter Tryz.func56, Tryz.ntmps56
  go_wp2_with fail
  refine HC.out.mono ?_
  rintro e w' ⟨i, rfl, hi, hd, rfl⟩
  have HD : Hid (decide (0 ≤ i) = q) := Lib.hid (by rw [← HQ.out]; exact decide_eq_decide.2 hd)
  clear hd
  go_wp2
  go_ret
  exact ⟨by rw [HQ.out, ← HD.out]; rfl, rfl⟩

set_option maxRecDepth 100000 in
set_option maxHeartbeats 4000000 in
theorem fit1_any {w : World} {B : Nat} {a : Option Addr} {n c : Nat} {b : Option Addr} {k d : Nat} {m : Syst} {a' : Option Addr} {n' c' : Nat} {b' : Option Addr} {k' d' : Nat} {s : Spc} {oa : Option Addr} {oc R x y C1 C2 : Nat} (h : TrArg w B a n c b k d m a' n' c' b' k' d' s (.slice oa k oc) R) (hm : sysB m = true) (hx : x < k) (hy : y < k') (hk : k ≤ 1000000) (hk' : k' ≤ 1000000)
    (h1 : Whole w C1 62 #[.slice a n c, .slice b k d, .slice a' n' c', .slice b' k' d', .slice oa k oc, .slice (some ⟨R, 0, none⟩) k' k']) (h2 : w.cell? ⟨C2, 0, none⟩ = some (.int .i64 (y : Int))) :
    Calls Tryz.prog 75 #[.int .i64 x, .pointer (some ⟨C1, 0, none⟩), .pointer (some ⟨C2, 0, none⟩)] w fun e w' => e = .returned (.bool (!fitB m s x y)) ∧ Below w.heap.size w w' := by
  have HC := Lib.hid (fits_any h hm hx hy hk hk')
  have c0 := h1.cell 0
  have c1 := h1.cell 1
  have c2 := h1.cell 2
  have c3 := h1.cell 3
  have c4 := h1.cell 4
  have c5 := h1.cell 5
  simp only [List.getElem?_toArray, List.getElem?_cons_succ, List.getElem?_cons_zero] at c0 c1 c2 c3 c4 c5
  obtain ⟨q, HQ⟩ : ∃ q, Hid (fitB m s x y = q) := ⟨_, Lib.hid rfl⟩
  rw [HQ.out] at HC ⊢
  clear h h1
  go_enter Tryz.func75, Tryz.ntmps75
  go_wp2_with fail
  refine HC.out.mono ?_
  rintro e w' ⟨rfl, hb⟩
  have HB := Lib.hid hb
  clear hb
  go_wp2
  go_ret
  exact ⟨rfl, HB.out⟩

set_option maxRecDepth 100000 in
set_option maxHeartbeats 4000000 in
theorem idxF_any {w : World} {B : Nat} {a : Option Addr} {n c : Nat} {b : Option Addr} {k d : Nat} {m : Syst} {a' : Option Addr} {n' c' : Nat} {b' : Option Addr} {k' d' : Nat} {s : Spc} {oa : Option Addr} {oc R y C1 C2 : Nat} (h : TrArg w B a n c b k d m a' n' c' b' k' d' s (.slice oa k oc) R) (hm : sysB m = true) (hy : y < k') (hk : k ≤ 1000000) (hk' : k' ≤ 1000000)
    (h1 : Whole w C1 62 #[.slice a n c, .slice b k d, .slice a' n' c', .slice b' k' d', .slice oa k oc, .slice (some ⟨R, 0, none⟩) k' k']) (h2 : w.cell? ⟨C2, 0, none⟩ = some (.int .i64 (y : Int))) {la : Option Addr} {ln lc : Nat} {l : List Nat} (A : IntArg w la ln lc (zs l)) (hl : ∀ x ∈ l, x < k) :
    Calls Tryz.prog 95 #[.slice la ln lc, .func (.func 75) #[] #[.pointer (some ⟨C1, 0, none⟩), .pointer (some ⟨C2, 0, none⟩)]] w fun e w' => ∃ i : Int, e = .returned (.int .i64 i) ∧ -1 ≤ i ∧ decide (0 ≤ i) = badB m s l y ∧ Below w.heap.size w w' := by
  have HT := Lib.hid h
  have H1 := Lib.hid h1
  have H2 := Lib.hid h2
  have HA := Lib.hid A
  have HL := Lib.hid hl
  have HM := Lib.hid hm
  have hn : ln ≤ 9223372036854775807 := A.big
  have HLn : Hid (l.length = ln) := Lib.hid (by rw [A.len, zs_len])
  have HBd : ∀ x, Hid (goodB m s x (y : Int) = fitB m s x y) := fun x => Lib.hid (by unfold goodB; rw [Int.toNat_natCast, decide_eq_true (by omega), Bool.true_and])
  clear h h1 h2 A hl hm
  go_enter Tryz.func95, Tryz.ntmps95
  go_wp2
  go_loopw [5, 8] (fun _ p wr => ∃ j : Nat, j ≤ ln ∧ p = .int .i64 j ∧ Hid (badB m s (l.take j) y = false) ∧ Hid (Below w.heap.size w wr)) (fun _ p _ => ln - (intOf p).toNat)
  case atStart => exact ⟨0, Nat.zero_le _, rfl, Lib.hid rfl, Lib.hid (Below.refl _ _)⟩
  case round =>
    obtain ⟨w1, hw1⟩ : ∃ z, z = wr := ⟨_, rfl⟩
    subst hw1
    obtain ⟨j, hj, rfl, hgd, hb⟩ := hrel
    by_cases hlt : j < ln
    · have hjl : j < l.length := by have := HLn.out; omega
      have hjx : j < (zs l).length := by rw [zs_len]; exact hjl
      obtain ⟨bb, off, rfl, c1⟩ := (HA.out.below hb.out).cells j hjx
      obtain ⟨x, HX⟩ : ∃ x, Hid (l[j]? = some x) := ⟨_, Lib.hid (List.getElem?_eq_getElem hjl)⟩
      have hzx : (zs l).getD j 0 = (x : Int) := by
        rw [List.getD_eq_getElem?_getD]
        unfold zs
        rw [List.getElem?_map, HX.out]
        rfl
      change w1.cell? _ = some (.int .i64 ((zs l).getD j 0)) at c1
      rw [hzx] at c1
      have hxk := HL.out x (List.mem_of_getElem? HX.out)
      have HC := fit1_any (HT.out.below hb.out) HM.out hxk hy hk hk' (H1.out.below hb.out H1.out.lt) ((hb.out.cell (lt_of_cell H2.out)).trans H2.out)
      have HTk : Hid (l.take (j + 1) = l.take j ++ [x]) := Lib.hid (take_one HX.out)
      have hj0 : (0 : Int) ≤ (j : Int) := by omega
      have hj1 : (j : Int) < (ln : Int) := by omega
      cases hf : fitB m s x y
      · rw [hf] at HC
        have HC := Lib.hid HC
        have HBy : Hid (badB m s l y = true) := Lib.hid (by
          unfold badB
          rw [List.any_eq_true]
          exact ⟨x, List.mem_of_getElem? HX.out, by rw [(HBd x).out, hf]; rfl⟩)
        clear hf hzx hjx hjl
        go_wp2_with fail
        refine HC.out.mono ?_
        rintro e w2 ⟨rfl, hb2⟩
        have HB2 := Lib.hid (hb.out.trans (hb2.mono hb.out.size))
        clear hb2
        go_wp2
        go_ret
        exact ⟨j, rfl, by omega, by rw [HBy.out]; exact decide_eq_true (by omega), HB2.out⟩
      · rw [hf] at HC
        have HC := Lib.hid HC
        have HBn : Hid (badB m s (l.take (j + 1)) y = false) := Lib.hid (by
          have h1 := hgd.out
          unfold badB at h1 ⊢
          rw [HTk.out, List.any_append, h1]
          simp [(HBd x).out, hf])
        clear hf hzx hjx hjl
        go_wp2_with fail
        refine HC.out.mono ?_
        rintro e w2 ⟨rfl, hb2⟩
        have HB2 := Lib.hid (hb.out.trans (hb2.mono hb.out.size))
        clear hb2
        go_wp2
        go_roundw
        case rel => exact ⟨j + 1, by omega, by go_num, HBn, HB2⟩
        case measure => simp [intOf]; omega
    · have HBn : Hid (badB m s l y = false) := Lib.hid (by
        have := hgd.out
        rwa [List.take_of_length_le (by rw [HLn.out]; omega)] at this)
      go_wp2
      go_ret
      exact ⟨-1, rfl, by omega, by rw [HBn.out]; rfl, hb.out⟩

set_option maxRecDepth 100000 in
set_option maxHeartbeats 4000000 in
theorem allFit_any {w : World} {B : Nat} {a : Option Addr} {n c : Nat} {b : Option Addr} {k d : Nat} {m : Syst} {a' : Option Addr} {n' c' : Nat} {b' : Option Addr} {k' d' : Nat} {s : Spc} {oa : Option Addr} {oc R y : Nat} (h : TrArg w B a n c b k d m a' n' c' b' k' d' s (.slice oa k oc) R) (hm : sysB m = true) (hy : y < k') (hk : k ≤ 1000000) (hk' : k' ≤ 1000000)
    {la : Option Addr} {ln lc : Nat} {l : List Nat} (A : IntArg w la ln lc (zs l)) (hl : ∀ x ∈ l, x < k) :
    Calls Tryz.prog 54 #[.agg #[.slice a n c, .slice b k d, .slice a' n' c', .slice b' k' d', .slice oa k oc, .slice (some ⟨R, 0, none⟩) k' k'], .slice la ln lc, .int .i64 y] w fun e w' => e = .returned (.bool (!badB m s l y)) ∧ Below w.heap.size w w' := by
  have hb0 := ((Below.refl w.heap.size w).alloc (Nat.le_refl _) (.cells #[.slice a n c, .slice b k d, .slice a' n' c', .slice b' k' d', .slice oa k oc, .slice (some ⟨R, 0, none⟩) k' k'] 62)).alloc (by simp) (.cells #[.int .i64 (y : Int)] 3)
  have h1 := (Whole.new w 62 #[.slice a n c, .slice b k d, .slice a' n' c', .slice b' k' d', .slice oa k oc, .slice (some ⟨R, 0, none⟩) k' k']).alloc (.cells #[.int .i64 (y : Int)] 3)
  have h2 := cell_first (w.alloc (.cells #[.slice a n c, .slice b k d, .slice a' n' c', .slice b' k' d', .slice oa k oc, .slice (some ⟨R, 0, none⟩) k' k'] 62)) (.int .i64 (y : Int)) 3
  simp only [World.size_alloc] at h2
  have hC := idxF_any (h.below hb0) hm hy hk hk' h1 h2 (A.below hb0) hl
  obtain ⟨w0, HW0⟩ : ∃ z, Hid ((w.alloc (.cells #[.slice a n c, .slice b k d, .slice a' n' c', .slice b' k' d', .slice oa k oc, .slice (some ⟨R, 0, none⟩) k' k'] 62)).alloc (.cells #[.int .i64 (y : Int)] 3) = z) := ⟨_, Lib.hid rfl⟩
  rw [HW0.out] at hb0 hC
  have HC := Lib.hid hC
  have HB0 := Lib.hid hb0
  clear h A hC hb0 h1 h2 hl
  have hF : Calls Tryz.prog 74 #[.slice la ln lc, .func (.func 75) #[] #[.pointer (some ⟨w.heap.size, 0, none⟩), .pointer (some ⟨w.heap.size + 1, 0, none⟩)]] w0 fun e w' => e = .returned (.bool (badB m s l y)) ∧ Below w0.heap.size w0 w' := by
    obtain ⟨q, HQ⟩ : ∃ q, Hid (badB m s l (y : Int) = q) := ⟨_, Lib.hid rfl⟩
    go_enter Tryz.func74, Tryz.ntmps74
    go_wp2_with fail
    refine HC.out.mono ?_
    rintro e w' ⟨i, rfl, hi, hd, hb⟩
    rw [HQ.out] at hd
    have HD := Lib.hid hd
    have HB := Lib.hid hb
    clear hd hb
    go_wp2
    go_ret
    exact ⟨by rw [HQ.out, ← HD.out]; rfl, HB.out⟩
  have HF := Lib.hid hF
  clear hF
  obtain ⟨q, HQ⟩ : ∃ q, Hid (badB m s l (y : Int) = q) := ⟨_, Lib.hid rfl⟩
  rw [HQ.out] at HF ⊢
  go_enter Tryz.func54, Tryz.ntmps54
  go_wp2_with fail
  rw [HW0.out]
  refine HF.out.mono ?_
  rintro e w' ⟨rfl, hb⟩
  have HB := Lib.hid (HB0.out.trans (hb.mono HB0.out.size))
  clear hb
  go_wp2
  go_ret
  exact ⟨rfl, HB.out⟩
end Go.Proofs.YtbncofgbpffmkaaGreatDoor
