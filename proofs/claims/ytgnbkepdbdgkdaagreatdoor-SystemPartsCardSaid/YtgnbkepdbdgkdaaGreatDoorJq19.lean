/- Texts joined: CrowdPl, OrdPl, OPartPl, PartEq. -/
import Derived.Test.YtgnbkepdbdgkdaaGreatDoorJq16
import Derived.Test.YtgnbkepdbdgkdaaGreatDoorJq17
import Derived.Test.YtgnbkepdbdgkdaaGreatDoorJq18
/- Plain facts: the states in which a system may be, in the order in which they are met; nothing here is about a program. -/
namespace Go.Proofs.YtgnbkepdbdgkdaaGreatDoor.Pl
open Go Go.Lib

def cAdd (l : List Nat) (y : Nat) : List Nat := if y ∈ l then l else l ++ [y]
def crE (a : Int) (acc : List Nat) (es : List Edg) : List Nat := es.foldl (fun acc e => if e.1 = a then cAdd acc e.2.toNat else acc) acc
def crN (ss : List (List Edg)) (l : List Nat) (a : Int) (acc : List Nat) : List Nat := l.foldl (fun acc x => crE a acc (stAt ss x)) acc
theorem cAdd_mem (l : List Nat) (y z : Nat) : z ∈ cAdd l y ↔ z ∈ l ∨ z = y := by
  unfold cAdd
  split
  · rename_i h
    constructor
    · exact .inl
    · rintro (h1 | rfl)
      · exact h1
      · exact h
  · simp
/-- no state twice, each one of the system's -/
def CrOk (k : Nat) (l : List Nat) : Prop := l.Nodup ∧ ∀ y ∈ l, y < k
theorem CrOk.nil (k : Nat) : CrOk k [] := ⟨List.nodup_nil, fun y h => by simp at h⟩
theorem CrOk.add {k : Nat} {l : List Nat} (h : CrOk k l) {y : Nat} (hy : y < k) : CrOk k (cAdd l y) := by
  refine ⟨?_, fun z hz => ?_⟩
  · unfold cAdd
    split
    · exact h.1
    · rename_i hn
      rw [List.nodup_append]
      refine ⟨h.1, by simp, ?_⟩
      intro a ha b hb e
      rw [List.mem_singleton] at hb
      subst hb
      subst e
      exact hn ha
  · rcases (cAdd_mem l y z).1 hz with h1 | rfl
    · exact h.2 z h1
    · exact hy
theorem nodup_le : ∀ (k : Nat) (l : List Nat), l.Nodup → (∀ y ∈ l, y < k) → l.length ≤ k
  | 0, l, _, h => by
    cases l with
    | nil => exact Nat.le_refl _
    | cons x l => exact absurd (h x (List.mem_cons_self ..)) (by omega)
  | k + 1, l, hn, h => by
    have h1 := nodup_le k (l.erase k) (hn.erase k) (fun y hy => by
      rw [hn.mem_erase_iff] at hy
      have := h y hy.2
      omega)
    have h2 := List.length_erase (a := k) (l := l)
    split at h2 <;> omega
theorem CrOk.len {k : Nat} {l : List Nat} (h : CrOk k l) : l.length ≤ k := nodup_le k l h.1 h.2
theorem crE_snoc (a : Int) (acc : List Nat) (es : List Edg) (e : Edg) : crE a acc (es ++ [e]) = if e.1 = a then cAdd (crE a acc es) e.2.toNat else crE a acc es := by simp [crE]
theorem crN_snoc (ss : List (List Edg)) (l : List Nat) (a : Int) (acc : List Nat) (x : Nat) : crN ss (l ++ [x]) a acc = crE a (crN ss l a acc) (stAt ss x) := by simp [crN]
theorem crE_mem (a : Int) (z : Nat) : ∀ (es : List Edg) (acc : List Nat), z ∈ crE a acc es ↔ z ∈ acc ∨ ∃ e ∈ es, e.1 = a ∧ e.2.toNat = z
  | [], acc => by simp [crE]
  | e :: es, acc => by
    have ih := crE_mem a z es (if e.1 = a then cAdd acc e.2.toNat else acc)
    have e1 : crE a acc (e :: es) = crE a (if e.1 = a then cAdd acc e.2.toNat else acc) es := rfl
    rw [e1, ih]
    by_cases h : e.1 = a
    · rw [if_pos h, cAdd_mem]
      constructor
      · rintro ((h1 | rfl) | ⟨f, h1, h2⟩)
        · exact .inl h1
        · exact .inr ⟨e, List.mem_cons_self .., h, rfl⟩
        · exact .inr ⟨f, List.mem_cons_of_mem _ h1, h2⟩
      · rintro (h1 | ⟨f, h1, h2, rfl⟩)
        · exact .inl (.inl h1)
        · rcases List.mem_cons.1 h1 with rfl | h1
          · exact .inl (.inr rfl)
          · exact .inr ⟨f, h1, h2, rfl⟩
    · rw [if_neg h]
      constructor
      · rintro (h1 | ⟨f, h1, h2⟩)
        · exact .inl h1
        · exact .inr ⟨f, List.mem_cons_of_mem _ h1, h2⟩
      · rintro (h1 | ⟨f, h1, h2, h3⟩)
        · exact .inl h1
        · rcases List.mem_cons.1 h1 with rfl | h1
          · exact absurd h2 h
          · exact .inr ⟨f, h1, h2, h3⟩
theorem crN_mem (ss : List (List Edg)) (a : Int) (z : Nat) : ∀ (l acc : List Nat), z ∈ crN ss l a acc ↔ z ∈ acc ∨ ∃ x ∈ l, ∃ e ∈ stAt ss x, e.1 = a ∧ e.2.toNat = z
  | [], acc => by simp [crN]
  | x :: l, acc => by
    have ih := crN_mem ss a z l (crE a acc (stAt ss x))
    have e1 : crN ss (x :: l) a acc = crN ss l a (crE a acc (stAt ss x)) := rfl
    rw [e1, ih, crE_mem]
    constructor
    · rintro ((h1 | h1) | ⟨y, h1, h2⟩)
      · exact .inl h1
      · exact .inr ⟨x, List.mem_cons_self .., h1⟩
      · exact .inr ⟨y, List.mem_cons_of_mem _ h1, h2⟩
    · rintro (h1 | ⟨y, h1, h2⟩)
      · exact .inl (.inl h1)
      · rcases List.mem_cons.1 h1 with rfl | h1
        · exact .inl (.inr h2)
        · exact .inr ⟨y, h1, h2⟩
theorem mem_edAt {l : List Edg} {e : Edg} (h : e ∈ l) : ∃ t, t < l.length ∧ edAt l t = e := by
  obtain ⟨t, ht, rfl⟩ := List.getElem_of_mem h
  exact ⟨t, ht, by simp [edAt, List.getD, ht]⟩
/-- the same states as the reference's -/
theorem crN_next {m : Syst} (hm : sysB m = true) {l l' : List Nat} (hl : ∀ x ∈ l, x < m.states.length) (hs : ∀ x, x ∈ l ↔ x ∈ l') (a : Int) (z : Nat) : z ∈ crN m.states l a [] ↔ z ∈ nextL m.states l' a := by
  rw [crN_mem]
  constructor
  · rintro (h | ⟨x, hx, e, he, h1, h2⟩)
    · simp at h
    · obtain ⟨t, ht, rfl⟩ := mem_edAt he
      have h3 := edge_ok hm (hl x hx) ht
      exact next_has ((hs x).1 hx) ht h1 (by omega) (by omega)
  · intro h
    obtain ⟨x, hx, t, ht, h1, h2⟩ := next_from h
    exact .inr ⟨x, (hs x).2 hx, edAt (stAt m.states x) t, edAt_mem ht, h1, by rw [h2]; simp⟩
theorem crE_ok {m : Syst} (hm : sysB m = true) {x : Nat} (hx : x < m.states.length) (a : Int) {acc : List Nat} (h : CrOk m.states.length acc) : ∀ j, j ≤ (stAt m.states x).length → CrOk m.states.length (crE a acc ((stAt m.states x).take j))
  | 0, _ => by simpa [crE] using h
  | j + 1, hj => by
    have ih := crE_ok hm hx a h j (by omega)
    have hj' : j < (stAt m.states x).length := by omega
    rw [List.take_succ_eq_append_getElem hj', crE_snoc]
    split
    · have h3 := edge_ok hm hx hj'
      have e2 : edAt (stAt m.states x) j = (stAt m.states x)[j] := by simp [edAt, List.getD, hj']
      rw [e2] at h3
      exact ih.add (by omega)
    · exact ih
theorem crE_next {es : List Edg} {j : Nat} (hj : j < es.length) (a : Int) (acc : List Nat) : crE a acc (es.take (j + 1)) = if (edAt es j).1 = a then cAdd (crE a acc (es.take j)) (edAt es j).2.toNat else crE a acc (es.take j) := by
  have e2 : edAt es j = es[j] := by simp [edAt, List.getD, hj]
  rw [List.take_succ_eq_append_getElem hj, crE_snoc, e2]
theorem crN_next' {ss : List (List Edg)} {l : List Nat} {r x : Nat} (h : l[r]? = some x) (a : Int) : crN ss (l.take (r + 1)) a [] = crE a (crN ss (l.take r) a []) (stAt ss x) := by
  obtain ⟨hr, rfl⟩ := List.getElem?_eq_some_iff.1 h
  rw [List.take_succ_eq_append_getElem hr, crN_snoc]
theorem crN_ok {m : Syst} (hm : sysB m = true) {l : List Nat} (hl : ∀ x ∈ l, x < m.states.length) (a : Int) : ∀ r, CrOk m.states.length (crN m.states (l.take r) a [])
  | 0 => by simpa [crN] using CrOk.nil _
  | r + 1 => by
    rcases Nat.lt_or_ge r l.length with h | h
    · rw [crN_next' (List.getElem?_eq_getElem h)]
      have h1 := crE_ok hm (hl l[r] (List.getElem_mem h)) a (crN_ok hm hl a r) _ (Nat.le_refl _)
      rwa [List.take_length] at h1
    · rw [List.take_of_length_le (by omega)]
      have := crN_ok hm hl a r
      rwa [List.take_of_length_le h] at this

/-! ### along a word -/
def faultC (m : Syst) (s : Spc) : List Int → List Nat → Int → Option (List Nat × Int)
  | [], l, y => some (l, y)
  | a :: w, l, y => if badB m s l y = true then none else if crN m.states l a [] = [] then none else faultC m s w (crN m.states l a []) (nextI s y a)
def endC (m : Syst) (s : Spc) (at_ : Int) : Option (List Nat × Int) → Bool
  | none => false
  | some (l, y) => decide (at_ ∈ l.map (fun (x : Nat) => (x : Int))) && !goodB m s at_.toNat y
theorem endC_empty (m : Syst) (s : Spc) (at_ : Int) : ∀ (w : List Int) (y : Int), endC m s at_ (faultF m s w [] y) = false
  | [], y => by simp [faultF, endC]
  | a :: w, y => by rw [faultF_stop (.inl rfl)]; rfl
theorem badB_set {m : Syst} {s : Spc} {l l' : List Nat} (h : ∀ x, x ∈ l ↔ x ∈ l') (y : Int) : badB m s l y = badB m s l' y := by
  unfold badB
  rw [Bool.eq_iff_iff, List.any_eq_true, List.any_eq_true]
  constructor
  · rintro ⟨x, h1, h2⟩; exact ⟨x, (h x).1 h1, h2⟩
  · rintro ⟨x, h1, h2⟩; exact ⟨x, (h x).2 h1, h2⟩
theorem good_fit {m : Syst} {s : Spc} {l : List Nat} {y : Int} (h : ¬ badB m s l y = true) {x : Nat} (hx : x ∈ l) : 0 ≤ y ∧ fitB m s x y.toNat = true := by
  unfold badB at h
  rw [List.any_eq_true] at h
  have h1 : goodB m s x y = true := by
    cases e : goodB m s x y
    · exact absurd ⟨x, hx, by rw [e]; rfl⟩ h
    · rfl
  unfold goodB at h1
  rw [Bool.and_eq_true, decide_eq_true_eq] at h1
  exact h1
theorem actsK_cons (n : Nat) (a : Int) (w : List Int) : actsK n (a :: w) = (decide (0 ≤ a ∧ a < n) && actsK n w) := by
  rw [Bool.eq_iff_iff, Bool.and_eq_true, decide_eq_true_eq, actsK_iff, actsK_iff]
  constructor
  · intro h
    exact ⟨h 0 (by simp), fun k hk => h (k + 1) (by simpa using hk)⟩
  · rintro ⟨h1, h2⟩ k hk
    cases k with
    | zero => exact h1
    | succ k => exact h2 k (by simpa using hk)
theorem step_some {m : Syst} {s : Spc} (hm : sysB m = true) (hs : spcB s = true) {l : List Nat} {y a : Int} (hl : ∀ x ∈ l, x < m.states.length) (hy : 0 ≤ y ∧ y < s.states.length) (hb : ¬ badB m s l y = true) (hn : crN m.states l a [] ≠ []) :
    (0 ≤ a ∧ a < m.acts.length) ∧ 0 ≤ nextI s y a ∧ nextI s y a < s.states.length ∧ a.toNat < (teAt s.states y.toNat).2.length := by
  obtain ⟨z, hz⟩ := List.exists_mem_of_ne_nil _ hn
  rw [crN_mem] at hz
  rcases hz with h | ⟨x, hx, e, he, h1, h2⟩
  · simp at h
  · obtain ⟨t, ht, rfl⟩ := mem_edAt he
    have h3 := edge_ok hm (hl x hx) ht
    have h4 := fit_next hm hs (hl x hx) (y := y.toNat) (by omega) (good_fit hb hx).2 ht
    rw [h1] at h3 h4
    exact ⟨⟨h3.1, h3.2.1⟩, h4.2.1, h4.2.2, h4.1⟩
theorem faultC_eq {m : Syst} {s : Spc} (hm : sysB m = true) (hs : spcB s = true) (at_ : Int) : ∀ (w : List Int) (l l' : List Nat) (y : Int), (∀ x ∈ l, x < m.states.length) → (∀ x, x ∈ l ↔ x ∈ l') → l ≠ [] → 0 ≤ y ∧ y < s.states.length →
    endC m s at_ (faultC m s w l y) = (actsK m.acts.length w && endC m s at_ (faultF m s w l' y))
  | [], l, l', y, _, hss, _, _ => by
    have e : (at_ ∈ l.map (fun (x : Nat) => (x : Int))) ↔ (at_ ∈ l'.map (fun (x : Nat) => (x : Int))) := by
      rw [List.mem_map, List.mem_map]
      constructor
      · rintro ⟨x, h1, h2⟩; exact ⟨x, (hss x).1 h1, h2⟩
      · rintro ⟨x, h1, h2⟩; exact ⟨x, (hss x).2 h1, h2⟩
    rw [show actsK m.acts.length [] = true from rfl, Bool.true_and]
    show (decide (at_ ∈ l.map (fun (x : Nat) => (x : Int))) && !goodB m s at_.toNat y) = (decide (at_ ∈ l'.map (fun (x : Nat) => (x : Int))) && !goodB m s at_.toNat y)
    rw [decide_eq_decide.2 e]
  | a :: w, l, l', y, hl, hss, hne, hy => by
    have hne' : l' ≠ [] := fun e => by
      obtain ⟨x, hx⟩ := List.exists_mem_of_ne_nil _ hne
      rw [hss, e] at hx
      simp at hx
    rw [faultC]
    by_cases hb : badB m s l y = true
    · have hb' : badB m s l' y = true := by rw [← badB_set hss]; exact hb
      rw [if_pos hb, faultF_stop (.inr hb')]
      show false = _
      rw [show endC m s at_ none = false from rfl, Bool.and_false]
    · have hb' : ¬ (l' = [] ∨ badB m s l' y = true) := by
        rintro (e | e)
        · exact hne' e
        · rw [← badB_set hss] at e
          exact hb e
      rw [if_neg hb]
      by_cases hn : crN m.states l a [] = []
      · rw [if_pos hn]
        have hn' : nextL m.states l' a = [] := by
          cases e : nextL m.states l' a with
          | nil => rfl
          | cons z r =>
            have := (crN_next hm hl hss a z).2 (by rw [e]; exact List.mem_cons_self ..)
            rw [hn] at this
            simp at this
        show false = _
        by_cases hlost : nextI s y a < 0 ∧ nextL m.states l' a = []
        · rw [faultF_lost hb' hlost, show endC m s at_ none = false from rfl, Bool.and_false]
        · rw [faultF_go hb' hlost, hn', endC_empty, Bool.and_false]
      · rw [if_neg hn]
        obtain ⟨h1, h2, h3, _⟩ := step_some hm hs hl hy hb hn
        rw [faultF_go hb' (fun q => by omega), faultC_eq hm hs at_ w (crN m.states l a []) (nextL m.states l' a) (nextI s y a) (fun x hx => nextL_lt x ((crN_next hm hl hss a x).1 hx)) (fun x => crN_next hm hl hss a x) hn ⟨h2, h3⟩, actsK_cons, decide_eq_true h1, Bool.true_and]
theorem faultB_crowd {m : Syst} {s : Spc} (hm : sysB m = true) (hs : spcB s = true) (word : List Int) (at_ : Int) : faultB m s word at_ = endC m s at_ (faultC m s word [0] 0) := by
  have h1 := ((sysB_iff m).1 hm).2.1
  have h2 := ((spcB_iff s).1 hs).2.1
  rw [faultC_eq hm hs at_ word [0] [0] 0 (fun x hx => by rw [List.mem_singleton] at hx; omega) (fun _ => Iff.rfl) (by simp) ⟨Int.le_refl _, by omega⟩]
  unfold faultB
  congr 1
end Go.Proofs.YtgnbkepdbdgkdaaGreatDoor.Pl
/- Plain facts: the states that can be reached from a state, in the order in which they are met; nothing here is about a program. -/
namespace Go.Proofs.YtgnbkepdbdgkdaaGreatDoor.Pl
open Go Go.Lib

/-- behind some edges -/
def ordE (l : List Nat) (es : List Edg) : List Nat := es.foldl (fun l e => cAdd l e.2.toNat) l
/-- behind the first i states of the list -/
def ordQ (m : Syst) (st : Nat) : Nat → List Nat
  | 0 => [st]
  | i + 1 => ordE (ordQ m st i) (stAt m.states ((ordQ m st i).getD i 0))
theorem ordE_next {l : List Nat} {es : List Edg} {j : Nat} (hj : j < es.length) : ordE l (es.take (j + 1)) = cAdd (ordE l (es.take j)) (edAt es j).2.toNat := by
  have e2 : edAt es j = es[j] := by simp [edAt, List.getD, hj]
  rw [e2]
  unfold ordE
  rw [List.take_succ_eq_append_getElem hj, List.foldl_append]
  rfl
theorem cAdd_pre (l : List Nat) (y : Nat) : l <+: cAdd l y := by
  unfold cAdd
  split
  · exact List.prefix_refl _
  · exact List.prefix_append _ _
theorem ordE_pre : ∀ (es : List Edg) (l : List Nat), l <+: ordE l es
  | [], l => List.prefix_refl _
  | e :: es, l => (cAdd_pre l _).trans (ordE_pre es (cAdd l e.2.toNat))
theorem ordQ_pre (m : Syst) (st : Nat) (i : Nat) : ∀ k, ordQ m st i <+: ordQ m st (i + k)
  | 0 => List.prefix_refl _
  | k + 1 => (ordQ_pre m st i k).trans (ordE_pre _ _)
theorem ordE_ok {m : Syst} (hm : sysB m = true) {x : Nat} (hx : x < m.states.length) {l : List Nat} (h : CrOk m.states.length l) : ∀ j, j ≤ (stAt m.states x).length → CrOk m.states.length (ordE l ((stAt m.states x).take j))
  | 0, _ => by simpa [ordE] using h
  | j + 1, hj => by
    have ih := ordE_ok hm hx h j (by omega)
    have h3 := edge_ok hm hx (show j < (stAt m.states x).length by omega)
    rw [ordE_next (by omega)]
    exact ih.add (by omega)
/-- the first i places are there -/
def OStp (m : Syst) (st i : Nat) : Prop := ∀ j, j < i → j < (ordQ m st j).length
theorem ordQ_ok {m : Syst} (hm : sysB m = true) {st : Nat} (hst : st < m.states.length) : ∀ i, OStp m st i → CrOk m.states.length (ordQ m st i)
  | 0, _ => ⟨by simp [ordQ], fun y hy => by
      have h1 : y ∈ [st] := hy
      rw [List.mem_singleton] at h1
      omega⟩
  | i + 1, h => by
    have ih := ordQ_ok hm hst i (fun j hj => h j (by omega))
    have hi := h i (by omega)
    have hx : (ordQ m st i).getD i 0 < m.states.length := by
      rw [List.getD_eq_getElem?_getD, List.getElem?_eq_getElem hi]
      exact ih.2 _ (List.getElem_mem hi)
    have h1 := ordE_ok hm hx ih _ (Nat.le_refl _)
    rw [List.take_length] at h1
    exact h1
/-- the whole list -/
def OrdIs (m : Syst) (st : Nat) (L : List Nat) : Prop := ∃ i, OStp m st i ∧ (ordQ m st i).length = i ∧ L = ordQ m st i
theorem ord_once {m : Syst} {st : Nat} {L L' : List Nat} (h : OrdIs m st L) (h' : OrdIs m st L') : L = L' := by
  obtain ⟨i, h1, h2, rfl⟩ := h
  obtain ⟨j, h3, h4, rfl⟩ := h'
  obtain rfl : i = j := by
    rcases Nat.lt_trichotomy i j with q | q | q
    · have := h3 i q
      omega
    · exact q
    · have := h1 j q
      omega
  rfl
theorem ord_ok {m : Syst} (hm : sysB m = true) {st : Nat} (hst : st < m.states.length) {L : List Nat} (h : OrdIs m st L) : CrOk m.states.length L := by
  obtain ⟨i, h1, _, rfl⟩ := h
  exact ordQ_ok hm hst i h1
theorem steps_next {m : Syst} {st i : Nat} (h : OStp m st i) (hi : i < (ordQ m st i).length) : OStp m st (i + 1) := fun j hj => by
  rcases Nat.lt_or_ge j i with h1 | h1
  · exact h j h1
  · obtain rfl : j = i := by omega
    exact hi
end Go.Proofs.YtgnbkepdbdgkdaaGreatDoor.Pl
/- Plain facts: an edge put into a row in its order, the numbers of the states of a list, the system of these states; nothing here is about a program. -/
namespace Go.Proofs.YtgnbkepdbdgkdaaGreatDoor.Pl
open Go Go.Lib

def insE : List Edg → Edg → List Edg
  | [], e => [e]
  | d :: l, e => if ltE d e = true then d :: insE l e else if d = e then d :: l else e :: d :: l
theorem insE_len : ∀ (l : List Edg) (e : Edg), (insE l e).length ≤ l.length + 1
  | [], _ => by simp [insE]
  | d :: l, e => by
    have := insE_len l e
    unfold insE
    split
    · simp only [List.length_cons]; omega
    · split
      · simp only [List.length_cons]; omega
      · simp only [List.length_cons]; omega
/-- the place of an edge -/
structure AtE (l : List Edg) (e : Edg) (p : Nat) : Prop where
  le : p ≤ l.length
  low : ∀ i, i < p → ltE (edAt l i) e = true
  stop : p < l.length → ltE (edAt l p) e = false
def withE (l : List Edg) (e : Edg) (p : Nat) : List Edg := if p < l.length ∧ edAt l p = e then l else l.take p ++ [e] ++ l.drop p
theorem withE_ins : ∀ (l : List Edg) (e : Edg) (p : Nat), AtE l e p → withE l e p = insE l e
  | [], e, p, h => by
    have := h.le
    obtain rfl : p = 0 := by simpa using this
    simp [withE, insE]
  | d :: l, e, 0, h => by
    have h1 : ltE d e = false := h.stop (by simp)
    unfold withE insE
    rw [h1]
    by_cases e9 : d = e
    · simp [edAt, e9]
    · simp [edAt, e9]
  | d :: l, e, p + 1, h => by
    have h1 : ltE d e = true := h.low 0 (by omega)
    have h2 : AtE l e p := ⟨by have := h.le; simp at this; omega, fun i hi => h.low (i + 1) (by omega), fun hp => h.stop (by simpa using hp)⟩
    have ih := withE_ins l e p h2
    unfold insE
    rw [if_pos h1, ← ih]
    unfold withE
    have e9 : edAt (d :: l) (p + 1) = edAt l p := rfl
    rw [e9]
    by_cases hc : p < l.length ∧ edAt l p = e
    · rw [if_pos hc, if_pos ⟨by simp; exact hc.1, hc.2⟩]
    · rw [if_neg hc, if_neg (fun h => hc ⟨by simpa using h.1, h.2⟩)]
      simp
/-- the edges with their targets' numbers -/
def edP (tq : List Int) (es : List Edg) : List Edg := es.foldl (fun acc e => insE acc (e.1, tq.getD e.2.toNat 0)) []
theorem edP_next {tq : List Int} {es : List Edg} {j : Nat} (hj : j < es.length) : edP tq (es.take (j + 1)) = insE (edP tq (es.take j)) ((edAt es j).1, tq.getD (edAt es j).2.toNat 0) := by
  have e2 : edAt es j = es[j] := by simp [edAt, List.getD, hj]
  rw [e2]
  unfold edP
  rw [List.take_succ_eq_append_getElem hj, List.foldl_append]
  rfl
theorem edP_len (tq : List Int) (es : List Edg) : ∀ j, j ≤ es.length → (edP tq (es.take j)).length ≤ j
  | 0, _ => by simp [edP]
  | j + 1, hj => by
    have ih := edP_len tq es j (by omega)
    have h2 := insE_len (edP tq (es.take j)) ((edAt es j).1, tq.getD (edAt es j).2.toNat 0)
    rw [edP_next (by omega)]
    omega
/-- the numbers, behind the first i states of the list -/
def toK (k : Nat) (L : List Nat) : Nat → List Int
  | 0 => List.replicate k 0
  | i + 1 => (toK k L i).set (L.getD i 0) i
theorem toK_len (k : Nat) (L : List Nat) : ∀ i, (toK k L i).length = k
  | 0 => by simp [toK]
  | i + 1 => by rw [toK, List.length_set]; exact toK_len k L i
def partS (m : Syst) (L : List Nat) : Syst := ⟨m.acts, L.map fun x => edP (toK m.states.length L L.length) (stAt m.states x)⟩
theorem partS_row {m : Syst} {L : List Nat} {j : Nat} (hj : j < L.length) : stAt (partS m L).states j = edP (toK m.states.length L L.length) (stAt m.states (L.getD j 0)) := by
  unfold partS stAt
  simp only
  rw [List.getD_eq_getElem?_getD, List.getElem?_map, List.getElem?_eq_getElem hj]
  simp [List.getD_eq_getElem?_getD, List.getElem?_eq_getElem hj]
end Go.Proofs.YtgnbkepdbdgkdaaGreatDoor.Pl
/- Plain facts: edges put in one by one, and sorted; nothing here is about a program. -/
namespace Go.Proofs.YtgnbkepdbdgkdaaGreatDoor
open Go Go.Lib Pl

def Rise (l : List Edg) : Prop := l.Pairwise fun x y => ltE x y = true
theorem lt_trans_E {x y z : Edg} (h1 : ltE x y = true) (h2 : ltE y z = true) : ltE x z = true := by
  rw [ltE_iff] at *; omega
theorem lt_or_E {x y : Edg} (h1 : ltE x y = false) (h2 : x ≠ y) : ltE y x = true := by
  rw [ltE_false] at h1
  rw [ltE_iff]
  rcases h1 with h | ⟨h, h3⟩
  · exact .inl h
  · refine .inr ⟨h.symm, ?_⟩
    rcases Int.lt_or_eq_of_le h3 with h4 | h4
    · exact h4
    · exact absurd (Prod.ext h h4.symm) h2
theorem insE_mem (x : Edg) : ∀ (l : List Edg) (e : Edg), x ∈ insE l e ↔ x ∈ l ∨ x = e
  | [], e => by simp [insE]
  | d :: l, e => by
    have ih := insE_mem x l e
    unfold insE
    split
    · simp only [List.mem_cons, ih, or_assoc]
    · split
      · rename_i h
        subst h
        simp only [List.mem_cons]
        constructor
        · exact .inl
        · rintro (h | h)
          · exact h
          · exact .inl h
      · simp only [List.mem_cons]
        constructor
        · rintro (h | h)
          · exact .inr h
          · exact .inl h
        · rintro (h | h)
          · exact .inr h
          · exact .inl h
theorem insE_rise : ∀ (l : List Edg) (e : Edg), Rise l → Rise (insE l e)
  | [], e, _ => by simp [insE, Rise]
  | d :: l, e, h => by
    have h1 := List.pairwise_cons.1 h
    unfold insE
    split
    · rename_i hd
      refine List.pairwise_cons.2 ⟨fun y hy => ?_, insE_rise l e h1.2⟩
      rcases (insE_mem y l e).1 hy with h2 | h2
      · exact h1.1 y h2
      · rw [h2]; exact hd
    · rename_i hd
      split
      · exact h
      · rename_i hne
        have h3 := lt_or_E (by simpa using hd) hne
        refine List.pairwise_cons.2 ⟨fun y hy => ?_, h⟩
        rcases List.mem_cons.1 hy with h2 | h2
        · rw [h2]; exact h3
        · exact lt_trans_E h3 (h1.1 y h2)
theorem fold_rise : ∀ (es acc : List Edg), Rise acc → Rise (es.foldl insE acc)
  | [], _, h => h
  | e :: es, acc, h => fold_rise es _ (insE_rise acc e h)
theorem fold_mem (x : Edg) : ∀ (es acc : List Edg), x ∈ es.foldl insE acc ↔ x ∈ acc ∨ x ∈ es
  | [], acc => by simp
  | e :: es, acc => by
    rw [List.foldl_cons, fold_mem x es, insE_mem, List.mem_cons, or_assoc]
theorem rise_nodup {l : List Edg} (h : Rise l) : l.Nodup := h.imp fun {x y} h1 e => by
  subst e
  rw [ltE_iff] at h1
  omega
theorem rise_eq : ∀ (l l' : List Edg), Rise l → Rise l' → (∀ x, x ∈ l ↔ x ∈ l') → l = l'
  | [], [], _, _, _ => rfl
  | [], y :: l', _, _, h => by have := (h y).2 (by simp); simp at this
  | x :: l, [], _, _, h => by have := (h x).1 (by simp); simp at this
  | x :: l, y :: l', h1, h2, h => by
    have a1 := List.pairwise_cons.1 h1
    have a2 := List.pairwise_cons.1 h2
    have e : x = y := by
      rcases List.mem_cons.1 ((h x).1 (by simp)) with e | e
      · exact e
      · rcases List.mem_cons.1 ((h y).2 (by simp)) with e' | e'
        · exact e'.symm
        · have b1 := a2.1 x e
          have b2 := a1.1 y e'
          rw [ltE_iff] at b1 b2
          omega
    subst e
    congr 1
    refine rise_eq l l' a1.2 a2.2 fun z => ?_
    have hz := h z
    simp only [List.mem_cons] at hz
    constructor
    · intro m
      rcases hz.1 (.inr m) with e | e
      · subst e
        exact absurd m (fun m => by have := a1.1 _ m; rw [ltE_iff] at this; omega)
      · exact e
    · intro m
      rcases hz.2 (.inr m) with e | e
      · subst e
        exact absurd m (fun m => by have := a2.1 _ m; rw [ltE_iff] at this; omega)
      · exact e
theorem sort_rise {l : List Edg} (h : l.Nodup) : Rise (sortEd l) := by
  have hp : (sortEd l).Perm l := List.mergeSort_perm l _
  have hs : (sortEd l).Pairwise (fun x y => (!ltE y x) = true) := List.pairwise_mergeSort (fun x y z h1 h2 => by
    simp only [Bool.not_eq_true'] at *
    rw [ltE_false] at *
    omega) (fun x y => by
    rw [Bool.or_eq_true, Bool.not_eq_true', Bool.not_eq_true', ltE_false, ltE_false]
    omega) l
  have hn : (sortEd l).Nodup := hp.nodup_iff.2 h
  refine (hs.and hn).imp fun {x y} h => ?_
  have h1 : ltE y x = false := by simpa using h.1
  exact lt_or_E h1 (Ne.symm h.2)
theorem sort_fold {l : List Edg} (h : l.Nodup) : sortEd l = l.foldl insE [] :=
  rise_eq _ _ (sort_rise h) (fold_rise l [] List.Pairwise.nil) fun x => by
    unfold sortEd
    rw [fold_mem, (List.mergeSort_perm l _).mem_iff]
    simp
end Go.Proofs.YtgnbkepdbdgkdaaGreatDoor
