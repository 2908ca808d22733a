/- Texts joined: HoldPl, SCopyA. -/
import Derived.Test.YtbncofgbpffmkaaGreatDoorJc31
import Derived.Test.YtbncofgbpffmkaaGreatDoorJc23
import Derived.Test.YtbncofgbpffmkaaGreatDoorJc18
import Derived.Test.YtbncofgbpffmkaaGreatDoorJc36
import Derived.Test.YtbncofgbpffmkaaGreatDoorJc10
/- Plain facts: the relation that the search ends with shows that the system satisfies the specification; every system satisfies the one that accepts all, none the one that accepts nothing, and each its own. Nothing here is about a program. -/
namespace Go.Proofs.YtbncofgbpffmkaaGreatDoor.Pl
open Go Go.Lib

/-! ### what is in the queue is marked -/
def PlM (q : List Wt × Mat) : Prop := ∀ p, p < q.1.length → getF q.2 (wtAt q.1 p).x (wtAt q.1 p).y = true
theorem PlM.add {m : Syst} {s : Spc} {q : List Wt × Mat} (h : PlM q) (ok : OkQ m s q) {i y : Nat} {e : Edg} (h1 : e.2.toNat < m.states.length) (h2 : nextY s y e.1 < s.states.length) : PlM (addQ s i y q e) := by
  unfold addQ
  split
  · exact h
  · intro p hp
    simp only [List.length_append, List.length_singleton] at hp
    show getF (setF q.2 e.2.toNat (nextY s y e.1)) (wtAt (q.1 ++ [⟨i, e.1, e.2.toNat, nextY s y e.1⟩]) p).x (wtAt (q.1 ++ [⟨i, e.1, e.2.toNat, nextY s y e.1⟩]) p).y = true
    rw [setF_get ok.shp h1 h2]
    rcases Nat.lt_or_ge p q.1.length with hl | hl
    · rw [wtAt_app hl, h p hl]
      rfl
    · obtain rfl : p = q.1.length := by omega
      rw [wtAt_snoc]
      simp
theorem PlM.inq {m : Syst} {s : Spc} (hm : sysB m = true) (hs : spcB s = true) {i : Nat} {q : List Wt × Mat} (hb : Bf m s i 0 q) (h : PlM q) (hf : fitB m s (wtAt q.1 i).x (wtAt q.1 i).y = true) : ∀ j, j ≤ (stAt m.states (wtAt q.1 i).x).length → PlM (inQ m s i q j)
  | 0, _ => by rw [inQ_zero]; exact h
  | j + 1, hj => by
    rw [inQ_next m s i q j (by omega)]
    have ih := PlM.inq hm hs hb h hf j (by omega)
    have h1 := (Bf.inq hm hs hb hf j (by omega)).1.ok
    have hr := hb.ok.rng i hb.pos
    have he := edge_ok hm hr.1 (show j < (stAt m.states (wtAt q.1 i).x).length by omega)
    have hn := fit_next hm hs hr.1 hr.2 hf (show j < (stAt m.states (wtAt q.1 i).x).length by omega)
    exact ih.add h1 (by omega) (by unfold nextY; omega)
theorem plm_at {m : Syst} {s : Spc} (hm : sysB m = true) (hs : spcB s = true) : ∀ i, FitsTo m s i → PlM (stQ m s i)
  | 0, _ => by
    intro p hp
    have hp0 : p = 0 := by
      have : (stQ m s 0).1.length = 1 := rfl
      omega
    subst hp0
    have h1 := ((sysB_iff m).1 hm).2.1
    have h2 := ((spcB_iff s).1 hs).2.1
    show getF (setF (noF m.states.length s.states.length) 0 0) 0 0 = true
    rw [setF_get (noF_shp _ _) (by omega) (by omega)]
    simp
  | i + 1, hF => by
    have hF' : FitsTo m s i := fun k hk => hF k (by omega)
    have h1 := hF i (by omega)
    exact PlM.inq hm hs (bf_at hm hs i hF' h1.1) (plm_at hm hs i hF') h1.2 _ (Nat.le_refl _)
theorem fits_at {m : Syst} {s : Spc} {i p : Nat} (hF : FitsTo m s i) (hp : p < i) : fitB m s (wtAt (stQ m s i).1 p).x (wtAt (stQ m s i).1 p).y = true := by
  obtain ⟨h1, h2⟩ := hF p hp
  have h3 := (stQ_mono (m := m) (s := s) p (i - p)).2 p h1
  rw [show p + (i - p) = i by omega] at h3
  rw [h3]
  exact h2
/-- the pairs of the verdict, as numbers -/
def castP (L : List (Nat × Nat)) : List (Int × Int) := L.map fun p => ((p.1 : Int), (p.2 : Int))
theorem castP_mem (L : List (Nat × Nat)) (u v : Nat) : ((u : Int), (v : Int)) ∈ castP L ↔ (u, v) ∈ L := by
  unfold castP
  rw [List.mem_map]
  constructor
  · rintro ⟨⟨a, b⟩, h1, h2⟩
    obtain ⟨h3, h4⟩ := Prod.mk.inj h2
    obtain rfl : a = u := Int.ofNat_inj.1 h3
    obtain rfl : b = v := Int.ofNat_inj.1 h4
    exact h1
  · intro h
    exact ⟨_, h, rfl⟩
theorem satYes_rel {m : Syst} {s : Spc} (hm : sysB m = true) (hs : spcB s = true) {L : List (Nat × Nat)} (h : SatYes m s L) : relB m s (castP L) = true := by
  obtain ⟨i, hF, hl, rfl⟩ := h
  have ok := okq_at hm hs i hF
  have hp := plm_at hm hs i hF
  have h0 : 0 < i := by
    rcases Nat.eq_zero_or_pos i with rfl | h1
    · have : (stQ m s 0).1.length = 1 := rfl
      omega
    · exact h1
  obtain ⟨i', rfl⟩ : ∃ i', i = i' + 1 := ⟨i - 1, by omega⟩
  have hF' : FitsTo m s i' := fun k hk => hF k (by omega)
  have h1 := hF i' (by omega)
  have hB := (Bf.inq hm hs (bf_at hm hs i' hF' h1.1) h1.2 _ (Nat.le_refl _)).1
  change Bf m s i' (stAt m.states (wtAt (stQ m s i').1 i').x).length (stQ m s (i' + 1)) at hB
  have hmono := (stQ_mono (m := m) (s := s) i' 1).2 i' h1.1
  change wtAt (stQ m s (i' + 1)).1 i' = _ at hmono
  obtain ⟨F, hFF⟩ : ∃ F, (stQ m s (i' + 1)).2 = F := ⟨_, rfl⟩
  have hin : ∀ p ∈ castP (allF (stQ m s (i' + 1)).2), inP m.states.length s.states.length p = true := by
    intro p hp'
    unfold castP at hp'
    rw [List.mem_map] at hp'
    obtain ⟨⟨x, y⟩, h2, rfl⟩ := hp'
    rw [allF_mem] at h2
    have hx : x < m.states.length := by
      rcases Nat.lt_or_ge x m.states.length with h3 | h3
      · exact h3
      · unfold getF at h2
        rw [List.getD_eq_getElem?_getD (l := (stQ m s (i' + 1)).2), List.getElem?_eq_none (by rw [ok.shp.1]; exact h3)] at h2
        cases h2
    have hy : y < s.states.length := by
      rcases Nat.lt_or_ge y s.states.length with h3 | h3
      · exact h3
      · unfold getF at h2
        rw [List.getD_eq_getElem?_getD (l := (stQ m s (i' + 1)).2.getD x []), List.getElem?_eq_none (by rw [ok.shp.2 x hx]; exact h3)] at h2
        cases h2
    rw [inP_iff]
    show 0 ≤ (x : Int) ∧ (x : Int) < _ ∧ 0 ≤ (y : Int) ∧ (y : Int) < _
    omega
  have hG : ∀ u v, getF (markF (noF m.states.length s.states.length) (castP (allF (stQ m s (i' + 1)).2))) u v = true ↔ getF (stQ m s (i' + 1)).2 u v = true := by
    intro u v
    rw [markF_get _ _ (noF_shp _ _) hin, castP_mem, allF_mem]
    exact ⟨fun h2 => h2.resolve_left (noF_none _ _ _ _), .inr⟩
  unfold relB
  rw [Bool.and_eq_true, Bool.and_eq_true]
  refine ⟨⟨List.all_eq_true.2 hin, List.all_eq_true.2 ?_⟩, ?_⟩
  · intro p hp'
    unfold castP at hp'
    rw [List.mem_map] at hp'
    obtain ⟨⟨x, y⟩, h2, rfl⟩ := hp'
    rw [allF_mem] at h2
    have h3 := hin _ ((castP_mem _ x y).2 ((allF_mem _ x y).2 h2))
    rw [inP_iff] at h3
    simp only at h3
    obtain ⟨p, hpl, rfl, rfl⟩ := hB.mark x y (by omega) (by omega) h2
    show pairB m s _ ((wtAt (stQ m s (i' + 1)).1 p).x : Int).toNat ((wtAt (stQ m s (i' + 1)).1 p).y : Int).toNat = true
    rw [Int.toNat_natCast, Int.toNat_natCast]
    unfold pairB closeB
    rw [fits_at hF (by omega), Bool.true_and, List.all_eq_true]
    intro e he
    obtain ⟨t, ht, he2⟩ := List.getElem_of_mem he
    have he3 : edAt (stAt m.states (wtAt (stQ m s (i' + 1)).1 p).x) t = e := by simp [edAt, List.getD, ht, he2]
    obtain ⟨p', h4, h5, h6, _⟩ := hB.closed p t hpl ht (by
      rcases Nat.lt_or_ge p i' with h7 | h7
      · exact .inl h7
      · obtain rfl : p = i' := by omega
        exact .inr ⟨rfl, by rw [hmono] at ht; exact ht⟩)
    rw [he3] at h5 h6
    rw [hG, ← h5, ← h6]
    exact hp p' h4
  · rw [hG]
    have := hp 0 (by omega)
    rw [hB.z0.1, hB.z0.2] at this
    exact this

/-! ### the specifications with one state -/
theorem offS_pow {n : Nat} {l : List Edg} (h : ∀ k, k < l.length → 0 ≤ (edAt l k).1 ∧ (edAt l k).1 < n) : offS l < 2 ^ n := by
  refine Nat.lt_pow_two_of_testBit _ (fun i hi => ?_)
  unfold offS
  rw [offS_bit]
  simp only [Nat.zero_testBit, Bool.false_or]
  rw [Bool.eq_false_iff]
  intro hc
  obtain ⟨e, he, h2⟩ := List.any_eq_true.1 hc
  obtain ⟨k, hk, rfl⟩ := List.getElem_of_mem he
  rw [decide_eq_true_eq] at h2
  have h3 := h k hk
  have h4 : edAt l k = l[k] := by simp [edAt, List.getD, hk]
  rw [h4] at h3
  omega
theorem upTo_at {n i : Nat} (h : i < n) : (upTo n).getD i 0 = (i : Int) := by simp [upTo, List.getD, h]
theorem upTo_mem (n : Nat) (x : Nat) : (x : Int) ∈ upTo n ↔ x < n := by
  unfold upTo
  rw [List.mem_map]
  constructor
  · rintro ⟨y, h1, h2⟩
    rw [List.mem_range] at h1
    have h3 : (y : Int) = (x : Int) := h2
    omega
  · intro h
    exact ⟨x, List.mem_range.2 h, rfl⟩
theorem bit_small {n a x : Nat} (hx : x < 2 ^ n) (hb : x.testBit a = true) : a < n := by
  rcases Nat.lt_or_ge a n with h | h
  · exact h
  · have : x.testBit a = false := Nat.testBit_lt_two_pow (Nat.lt_of_lt_of_le hx (Nat.pow_le_pow_right (by decide) h))
    rw [this] at hb
    cases hb
theorem allQ_ok {acts : List ByteArray} (h : actsB acts = true) : spcB (allQ acts) = true := by
  rw [spcB_iff]
  refine ⟨h, Nat.le_refl _, by show 1 ≤ 500; decide, fun i hi => ?_⟩
  obtain rfl : i = 0 := by
    have : (allQ acts).states.length = 1 := rfl
    omega
  show steB acts.length 1 (upTo (2 ^ acts.length), List.replicate acts.length 0) = true
  unfold steB
  rw [Bool.and_eq_true, nextB_iff, accB_iff]
  refine ⟨⟨by simp, fun j hj => ?_⟩, fun i hi => ?_⟩
  · rw [List.length_replicate] at hj
    rw [okNext_iff]
    simp [List.getD, hj]
  · rw [upTo_len] at hi
    rw [upTo_at hi, okSet_iff]
    refine ⟨⟨by omega, fun a _ hb => ?_⟩, ?_⟩
    · rw [Int.toNat_natCast] at hb
      have h1 := bit_small hi hb
      unfold leadP
      simp [List.getD, h1]
    · unfold risB
      rw [Bool.or_eq_true, decide_eq_true_eq, decide_eq_true_eq, upTo_at hi]
      rcases Nat.eq_zero_or_pos i with h0 | h0
      · exact .inl h0
      · rw [upTo_at (by omega)]
        exact .inr (by omega)
theorem noneQ_ok {acts : List ByteArray} (h : actsB acts = true) : spcB (noneQ acts) = true := by
  rw [spcB_iff]
  refine ⟨h, Nat.le_refl _, by show 1 ≤ 500; decide, fun i hi => ?_⟩
  obtain rfl : i = 0 := by
    have : (noneQ acts).states.length = 1 := rfl
    omega
  show steB acts.length 1 ([], List.replicate acts.length (-1)) = true
  unfold steB
  rw [Bool.and_eq_true, nextB_iff, accB_iff]
  refine ⟨⟨by simp, fun j hj => ?_⟩, fun i hi => by simp at hi⟩
  rw [List.length_replicate] at hj
  rw [okNext_iff]
  simp [List.getD, hj]
theorem all_sat {m : Syst} (hm : sysB m = true) {wd : List Int} {x : Nat} (h : SatNo m (allQ m.acts) wd x) : False := by
  have hs := allQ_ok ((sysB_iff m).1 hm).1
  obtain ⟨i, hF, hi, hn, _⟩ := h
  have hr := (okq_at hm hs i hF).rng i hi
  have hy : (wtAt (stQ m (allQ m.acts) i).1 i).y = 0 := by
    have : (allQ m.acts).states.length = 1 := rfl
    omega
  rw [hy] at hn
  have hf : fitB m (allQ m.acts) (wtAt (stQ m (allQ m.acts) i).1 i).x 0 = true := by
    unfold fitB
    rw [decide_eq_true_eq]
    show ((offS (stAt m.states (wtAt (stQ m (allQ m.acts) i).1 i).x) : Nat) : Int) ∈ upTo (2 ^ m.acts.length)
    rw [upTo_mem]
    exact offS_pow (fun k hk => by
      have := edge_ok hm hr.1 hk
      omega)
  rw [hf] at hn
  cases hn
theorem none_sat {m : Syst} {L : List (Nat × Nat)} (h : SatYes m (noneQ m.acts) L) : False := by
  obtain ⟨i, hF, hl, _⟩ := h
  have h0 : 0 < i := by
    rcases Nat.eq_zero_or_pos i with rfl | h1
    · have : (stQ m (noneQ m.acts) 0).1.length = 1 := rfl
      omega
    · exact h1
  have h1 := (hF 0 h0).2
  have hf : fitB m (noneQ m.acts) 0 0 = false := by
    unfold fitB
    rw [decide_eq_false_iff_not]
    show ((offS (stAt m.states 0) : Nat) : Int) ∉ []
    simp
  change fitB m (noneQ m.acts) 0 0 = true at h1
  rw [hf] at h1
  cases h1

/-! ### a system's own one -/
theorem nxE_at {na ns : Nat} {l : List Edg} (hl : ∀ k, k < l.length → 0 ≤ (edAt l k).1 ∧ (edAt l k).1 < na ∧ 0 ≤ (edAt l k).2 ∧ (edAt l k).2 < ns) : ∀ j nx, j ≤ l.length → nxE na l j = some nx →
    nx.length = na ∧ (∀ a, a < na → -1 ≤ nx.getD a 0 ∧ nx.getD a 0 < ns) ∧ ∀ t, t < j → nx.getD (edAt l t).1.toNat 0 = (edAt l t).2
  | 0, nx, _, h => by
    cases h
    refine ⟨by simp, fun a ha => ?_, fun t ht => by omega⟩
    rw [List.getD_eq_getElem?_getD, List.getElem?_replicate, if_pos ha]
    show -1 ≤ (-1 : Int) ∧ (-1 : Int) < ns
    omega
  | j + 1, nx, hj, h => by
    unfold nxE at h
    cases h1 : nxE na l j with
    | none => rw [h1] at h; cases h
    | some nx0 =>
      rw [h1, Option.bind_some] at h
      obtain ⟨h2, h3, h4⟩ := nxE_at hl j nx0 (by omega) h1
      have he := hl j (by omega)
      split at h
      · rename_i hfree
        cases h
        have hat : ∀ a, (nx0.set (edAt l j).1.toNat (edAt l j).2).getD a 0 = if (edAt l j).1.toNat = a then (edAt l j).2 else nx0.getD a 0 := fun a => by
          rw [List.getD_eq_getElem?_getD, List.getElem?_set]
          split
          · rw [if_pos (by omega)]; rfl
          · rw [List.getD_eq_getElem?_getD]
        refine ⟨by rw [List.length_set]; exact h2, fun a ha => ?_, fun t ht => ?_⟩
        · rw [hat]
          split
          · omega
          · exact h3 a ha
        · rw [hat]
          by_cases e : (edAt l j).1.toNat = (edAt l t).1.toNat
          · rw [if_pos e]
            rcases Nat.lt_or_ge t j with h5 | h5
            · have h6 := h4 t h5
              rw [← e, hfree] at h6
              have := hl t (by omega)
              omega
            · obtain rfl : t = j := by omega
              rfl
          · rw [if_neg e]
            rcases Nat.lt_or_ge t j with h5 | h5
            · exact h4 t h5
            · obtain rfl : t = j := by omega
              exact absurd rfl e
      · cases h
theorem ofK_at {m : Syst} : ∀ i ss, i ≤ m.states.length → ofK m i = some ss → ss.length = i ∧ ∀ x, x < i → ∃ nx, nxE m.acts.length (stAt m.states x) (stAt m.states x).length = some nx ∧ teAt ss x = ([(setE (stAt m.states x) : Int)], nx)
  | 0, ss, _, h => by
    cases h
    exact ⟨rfl, fun x hx => by omega⟩
  | i + 1, ss, hi, h => by
    unfold ofK at h
    cases h1 : ofK m i with
    | none => rw [h1] at h; cases h
    | some s0 =>
      rw [h1, Option.bind_some] at h
      obtain ⟨h2, h3⟩ := ofK_at i s0 (by omega) h1
      cases h4 : nxE m.acts.length (stAt m.states i) (stAt m.states i).length with
      | none => rw [h4] at h; cases h
      | some nx =>
        rw [h4] at h
        cases h
        refine ⟨by simp [h2], fun x hx => ?_⟩
        rcases Nat.lt_or_ge x i with h5 | h5
        · obtain ⟨nx', g1, g2⟩ := h3 x h5
          refine ⟨nx', g1, ?_⟩
          rw [← g2]
          unfold teAt
          rw [List.getD_eq_getElem?_getD, List.getElem?_append_left (by omega), ← List.getD_eq_getElem?_getD]
        · obtain rfl : x = i := by omega
          refine ⟨nx, h4, ?_⟩
          unfold teAt
          rw [List.getD_eq_getElem?_getD, List.getElem?_append_right (by omega), h2, Nat.sub_self]
          rfl
theorem ofQ_at {m : Syst} {q : Spc} (h : ofQ m = some q) : q.acts = m.acts ∧ q.states.length = m.states.length ∧ ∀ x, x < m.states.length → ∃ nx, nxE m.acts.length (stAt m.states x) (stAt m.states x).length = some nx ∧ teAt q.states x = ([(setE (stAt m.states x) : Int)], nx) := by
  unfold ofQ at h
  cases h1 : ofK m m.states.length with
  | none => rw [h1] at h; cases h
  | some ss =>
    rw [h1] at h
    cases h
    obtain ⟨h2, h3⟩ := ofK_at _ ss (Nat.le_refl _) h1
    exact ⟨rfl, h2, h3⟩
theorem ofQ_ok {m : Syst} (hm : sysB m = true) (h5 : m.states.length ≤ 500) {q : Spc} (h : ofQ m = some q) : spcB q = true := by
  obtain ⟨ha, hl, hst⟩ := ofQ_at h
  have hm' := (sysB_iff m).1 hm
  rw [spcB_iff, ha, hl]
  refine ⟨hm'.1, hm'.2.1, h5, fun x hx => ?_⟩
  obtain ⟨nx, h1, h2⟩ := hst x hx
  have hed : ∀ k, k < (stAt m.states x).length → 0 ≤ (edAt (stAt m.states x) k).1 ∧ (edAt (stAt m.states x) k).1 < m.acts.length ∧ 0 ≤ (edAt (stAt m.states x) k).2 ∧ (edAt (stAt m.states x) k).2 < m.states.length := fun k hk => edge_ok hm hx hk
  obtain ⟨g1, g2, g3⟩ := nxE_at hed _ nx (Nat.le_refl _) h1
  rw [h2]
  unfold steB
  rw [Bool.and_eq_true, nextB_iff, accB_iff]
  refine ⟨⟨g1, fun j hj => ?_⟩, fun i hi => ?_⟩
  · rw [okNext_iff]
    exact g2 j (by rw [← g1]; exact hj)
  · obtain rfl : i = 0 := by
      have h10 : i < 1 := hi
      omega
    refine ⟨?_, rfl⟩
    show okSet nx ((setE (stAt m.states x) : Nat) : Int) = true
    rw [okSet_iff]
    refine ⟨by omega, fun a _ hb => ?_⟩
    rw [Int.toNat_natCast] at hb
    change (offS (stAt m.states x)).testBit a = true at hb
    unfold offS at hb
    rw [offS_bit] at hb
    simp only [Nat.zero_testBit, Bool.false_or] at hb
    obtain ⟨e, he, h6⟩ := List.any_eq_true.1 hb
    rw [decide_eq_true_eq] at h6
    obtain ⟨t, ht, rfl⟩ := List.getElem_of_mem he
    have h7 : edAt (stAt m.states x) t = (stAt m.states x)[t] := by simp [edAt, List.getD, ht]
    have h8 := g3 t ht
    have h9 := hed t ht
    rw [h7, h6] at h8
    rw [h7] at h9
    unfold leadP
    rw [Bool.and_eq_true, decide_eq_true_eq, decide_eq_true_eq]
    exact ⟨by omega, by omega⟩
theorem of_sat {m : Syst} (hm : sysB m = true) (h5 : m.states.length ≤ 500) {q : Spc} (h : ofQ m = some q) {wd : List Int} {x : Nat} (hN : SatNo m q wd x) : False := by
  have hs := ofQ_ok hm h5 h
  obtain ⟨ha, hl, hst⟩ := ofQ_at h
  have hfit : ∀ x, x < m.states.length → fitB m q x x = true := fun x hx => by
    obtain ⟨nx, _, h2⟩ := hst x hx
    unfold fitB
    rw [decide_eq_true_eq, h2]
    show ((offS (stAt m.states x) : Nat) : Int) ∈ [((setE (stAt m.states x) : Nat) : Int)]
    rw [List.mem_singleton]
    rfl
  have hnext : ∀ x t, x < m.states.length → t < (stAt m.states x).length → nextY q x (edAt (stAt m.states x) t).1 = (edAt (stAt m.states x) t).2.toNat := fun x t hx ht => by
    obtain ⟨nx, h1, h2⟩ := hst x hx
    have hed : ∀ k, k < (stAt m.states x).length → 0 ≤ (edAt (stAt m.states x) k).1 ∧ (edAt (stAt m.states x) k).1 < m.acts.length ∧ 0 ≤ (edAt (stAt m.states x) k).2 ∧ (edAt (stAt m.states x) k).2 < m.states.length := fun k hk => edge_ok hm hx hk
    obtain ⟨_, _, g3⟩ := nxE_at hed _ nx (Nat.le_refl _) h1
    unfold nextY
    rw [h2]
    show (nx.getD (edAt (stAt m.states x) t).1.toNat 0).toNat = _
    rw [g3 t ht]
  obtain ⟨i, hF, hi, hn, _⟩ := hN
  have hsame : ∀ i, FitsTo m q i → ∀ p, p < (stQ m q i).1.length → (wtAt (stQ m q i).1 p).y = (wtAt (stQ m q i).1 p).x := by
    intro i
    induction i with
    | zero =>
      intro _ p hp
      have hp0 : p = 0 := by
        have : (stQ m q 0).1.length = 1 := rfl
        omega
      subst hp0
      rfl
    | succ i ih =>
      intro hF
      have hF' : FitsTo m q i := fun k hk => hF k (by omega)
      have h1 := hF i (by omega)
      have hi' := ih hF'
      have hr := (okq_at hm hs i hF').rng i h1.1
      have hxy := hi' i h1.1
      have key : ∀ j, j ≤ (stAt m.states (wtAt (stQ m q i).1 i).x).length → ∀ p, p < (inQ m q i (stQ m q i) j).1.length → (wtAt (inQ m q i (stQ m q i) j).1 p).y = (wtAt (inQ m q i (stQ m q i) j).1 p).x := by
        intro j
        induction j with
        | zero =>
          intro _
          rw [inQ_zero]
          exact hi'
        | succ j ihj =>
          intro hj
          rw [inQ_next m q i _ j (by omega)]
          have ih2 := ihj (by omega)
          unfold addQ
          split
          · exact ih2
          · intro p hp
            simp only [List.length_append, List.length_singleton] at hp
            rcases Nat.lt_or_ge p (inQ m q i (stQ m q i) j).1.length with h6 | h6
            · rw [wtAt_app h6]
              exact ih2 p h6
            · obtain rfl : p = (inQ m q i (stQ m q i) j).1.length := by omega
              rw [wtAt_snoc]
              show nextY q (wtAt (stQ m q i).1 i).y _ = _
              rw [hxy]
              exact hnext _ j hr.1 (by omega)
      exact key _ (Nat.le_refl _)
  have hr := (okq_at hm hs i hF).rng i hi
  rw [hsame i hF i hi, hfit _ hr.1] at hn
  cases hn
end Go.Proofs.YtbncofgbpffmkaaGreatDoor.Pl
/- The reference's Copy of specifications, as an argument of another call. -/
namespace Go.Proofs.YtbncofgbpffmkaaGreatDoor
open Go.RowKit Pl

theorem SCopyA_any {w : World} {a : Option Addr} {n c : Nat} {b : Option Addr} {k d : Nat} {s : Spc} (A : SpecArg w a n c b k d s) (hq : s.acts.length + s.states.length + totalS s.states ≤ 1000000) :
    Calls Tryz.prog 9 #[.agg #[.slice a n c, .slice b k d]] w fun e w' => ∃ a2 c2 b2 d2, e = .returned (.agg #[.slice a2 s.acts.length c2, .slice b2 s.states.length d2]) ∧ SpecArg w' a2 s.acts.length c2 b2 s.states.length d2 s ∧ Below w.heap.size w w' := by
  refine (SCopy_any A hq).mono ?_
  rintro e w2 ⟨va, vs, rfl, hO, hb2⟩
  obtain ⟨a2, c2, b2, d2, rfl, rfl, hA2⟩ := hO.arg (by omega) (by omega) (fun i hi => by
    obtain ⟨_, _, _, _, _, _, _, _, _, _, _, h1, h2⟩ := A.rows i hi
    exact ⟨h1.fits, h2.fits⟩) (fun k hk => A.acts.sz k (by have := A.acts.len; omega))
  exact ⟨a2, c2, b2, d2, rfl, hA2, hb2⟩
end Go.Proofs.YtbncofgbpffmkaaGreatDoor
