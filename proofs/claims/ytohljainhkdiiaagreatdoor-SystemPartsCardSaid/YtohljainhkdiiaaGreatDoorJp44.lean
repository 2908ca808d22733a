/- Texts joined: SortE, PartEq, Nbr, RedPl. -/
import Derived.Test.YtohljainhkdiiaaGreatDoorJp43
import Derived.Test.YtohljainhkdiiaaGreatDoorJp03
import Derived.Test.YtohljainhkdiiaaGreatDoorJp04
import Derived.Sort.OwnSortedInts
import Derived.Test.YtohljainhkdiiaaGreatDoorJp41
import Derived.Test.YtohljainhkdiiaaGreatDoorJp36
/- slices.SortFunc at a row of edges of the call's own. -/
namespace Go.Proofs.YtohljainhkdiiaaGreatDoor
open Go.RowKit Go.Sort Go.Shelf Go.Proofs Pl

def encE (e : Edg) : List Value := [.int .i64 e.1, .int .i64 e.2]
theorem flat_E (l : List Edg) : (flatK encE 2 l.toArray).toList = ecells l := by
  refine List.ext_getElem? fun j => ?_
  by_cases hj : j < l.length * 2
  · have h1 : j < (flatK encE 2 l.toArray).size := by simpa using hj
    have h2 : (flatK encE 2 l.toArray)[j]? = some ((encE l.toArray[j / 2]!)[j % 2]!) := by
      rw [Array.getElem?_eq_getElem h1, ← getElem!_pos (flatK encE 2 l.toArray) j h1, get_flatK encE 2 l.toArray j (by simpa using hj)]
    obtain ⟨h3, h4⟩ := ecells_at l (j / 2) (by omega)
    have h5 : l.toArray[j / 2]! = edAt l (j / 2) := by
      rw [getElem!_pos l.toArray (j / 2) (by simp; omega)]
      simp [edAt, List.getD, show j / 2 < l.length by omega]
    rw [Array.getElem?_toList, h2, h5]
    rcases Nat.mod_two_eq_zero_or_one j with e | e
    · rw [e]
      rw [show j / 2 * 2 = j by omega] at h3
      rw [h3]
      rfl
    · rw [e]
      rw [show j / 2 * 2 + 1 = j by omega] at h4
      rw [h4]
      rfl
  · rw [List.getElem?_eq_none (by simp; omega), List.getElem?_eq_none (by rw [ecells_length]; omega)]
theorem holds_id {w : World} {g : Nat} {cur F : Array Value} {e : TypeId} (hb : w.heap[g]? = some (.cells cur e (0, 0))) (ht : cur.toList.take F.size = F.toList) : Holds id w g 0 F := by
  intro j hj
  refine ⟨?_, by simp [World.frozen?, hb]⟩
  have h1 : (cur.toList.take F.size)[j]? = F.toList[j]? := by rw [ht]
  rw [List.getElem?_take_of_lt hj] at h1
  simp only [World.cell?, hb, Nat.zero_add]
  simp only [Option.isSome_none, Bool.false_eq_true, if_false]
  rw [← Array.getElem?_toList, h1]
  simp [hj]
theorem heap_put {w : World} {g n : Nat} {os : Array Obj} {cur F : Array Value} {e : TypeId} {fr : Nat × Nat} (hb : w.heap[g]? = some (.cells cur e fr)) :
    (grow (putRow id (Sort.ahead w n) g 0 F) os).heap[g]? = some (.cells (putCells id 0 F cur) e fr) := by
  have hg : g < w.heap.size := (Array.getElem?_eq_some_iff.1 hb).1
  rw [heap_grow_old _ _ (by simpa using hg)]
  simp [putRow, mapBlock, Sort.ahead, Array.getElem?_modify, hb, onCells]
theorem grown_put {w : World} {g n : Nat} {os : Array Obj} (F : Array Value) : w.grownBy (grow (putRow id (Sort.ahead w n) g 0 F) os) (some g) := by
  refine ⟨rfl, rfl, rfl, by simp, fun k hk hne => ?_⟩
  rw [heap_grow_old _ _ (by simpa using hk)]
  have : g ≠ k := fun e => hne (by rw [e])
  simp [putRow, mapBlock, Sort.ahead, Array.getElem?_modify, this]
theorem take_put (cur F : Array Value) (h : F.size ≤ cur.size) : (putCells id 0 F cur).toList.take F.size = F.toList := by
  apply List.ext_getElem?
  intro j
  by_cases hj : j < F.size
  · rw [List.getElem?_take_of_lt hj, Array.getElem?_toList]
    simp [putCells, hj, show j < cur.size by omega]
  · rw [List.getElem?_take_eq_none (by omega), List.getElem?_eq_none (by simp; omega)]
theorem own_put {w : World} {base g cap n m size : Nat} {e : TypeId} {os : Array Obj} {cur F : Array Value} (hF : F.size = m * size) (hbase : base ≤ g) (hb : w.heap[g]? = some (.cells cur e (0, 0))) (h1 : m ≤ cap) (h2 : cap ≤ maxLen) (h3 : cur.size = cap * size) :
    (grow (putRow id (Sort.ahead w n) g 0 F) os).ownsRow base e size (.slice (some ⟨g, 0, none⟩) m cap) m F.toList :=
  ⟨by simpa using hF, .inr ⟨g, cap, _, rfl, hbase, heap_put hb, h1, h2, by simp [putCells, h3], by rw [← hF]; exact take_put cur F (by rw [hF, h3]; exact Nat.mul_le_mul_right _ h1)⟩⟩
theorem ltOf_E : ltOf cmpE = ltE := by
  funext x y
  have := cmpE_lt x y
  unfold ltOf
  cases h : ltE x y <;> simp_all
theorem swo_E : SWO (ltOf cmpE) where
  irrefl x := by rw [ltOf_E, ltE_false]; omega
  trans x y z h1 h2 := by rw [ltOf_E] at *; rw [ltE_iff] at *; omega
  ntrans x y z h1 h2 := by rw [ltOf_E] at *; rw [ltE_false] at *; omega
theorem total_E (x y : Edg) (h1 : ltOf cmpE x y = false) (h2 : ltOf cmpE y x = false) : x = y := by
  rw [ltOf_E, ltE_false] at *
  exact Prod.ext (by omega) (by omega)
def sortEd (l : List Edg) : List Edg := l.mergeSort fun x y => !ltE y x
theorem grow_three (W : World) (o1 o2 o3 : Obj) : (((W.alloc o1).alloc o2).alloc o3).drew = grow (W.drewN 1) #[o1, o2, o3] := by
  rfl
theorem sortE_any {w : World} {B : Nat} {v : Value} {l : List Edg} (h : EdgeOwn w B v l) (hl : l.length ≤ 1000000) :
    Calls Tryz.prog 74 #[v, .func (.func 75) #[] #[]] w fun e w' => e = .returned (.tuple #[]) ∧ EdgeOwn w' B v (sortEd l) ∧ w.grownBy w' v.ownBlock := by
  have hO := h
  rcases h.2 with ⟨rfl, h0⟩ | ⟨g, cap, cur, rfl, hg, hh, hc, hm, hsz, ht⟩
  · refine (AnyF.slices_SortFunc_none Tryz.laysSortE none 0 _ w).mono ?_
    rintro e w' ⟨rfl, rfl⟩
    have e1 : l = [] := List.length_eq_zero_iff.1 h0
    subst e1
    exact ⟨rfl, by simpa [sortEd] using hO, ⟨rfl, rfl, rfl, Nat.le_refl _, fun k _ _ => rfl⟩⟩
  · have hF : (flatK encE 2 l.toArray).size = l.length * 2 := by simp
    have hH : HoldsK encE 2 w g 0 l.toArray := holds_id hh (by rw [hF, flat_E, ← ht])
    have hlt := (Array.getElem?_eq_some_iff.1 hh).1
    have eg : ∀ args w, (callFunc 75 args).run Tryz.prog w = .ok (.enter 75 args) w := enters_of Tryz.func75 (by kernel_rfl) rfl
    have hcmp : CmpLays Tryz.prog 75 #[] encE 2 cmpE g 0 l.toArray.size w := fun m os dk hs x y =>
      (compareEdges_at x.1 x.2 y.1 y.2 _).mono fun e w' ⟨h1, h2⟩ => ⟨h1, 1, #[_, _, _], h2.symm.trans (grow_three _ _ _ _)⟩
    have hC := AnyQ.slices_SortFunc_total Tryz.laysSortE 2 Tryz.isAgg71 Tryz.sizeOf71 encE (fun _ => rfl) (fun x v hv => by simp [encE] at hv; rcases hv with rfl | rfl <;> rfl) cmpE swo_E 75 #[] g 0 cap l.toArray w eg hcmp hH hlt (by simp; omega) total_E
    refine hC.mono ?_
    rintro e w' ⟨rfl, q, os, rfl⟩
    rw [ltOf_E]
    have hlen : (sortEd l).length = l.length := List.length_mergeSort _
    refine ⟨rfl, ?_, grown_put _⟩
    unfold EdgeOwn
    rw [hlen, ← flat_E]
    exact own_put (by simp [hlen]) hg hh hc hm hsz
end Go.Proofs.YtohljainhkdiiaaGreatDoor
/- Plain facts: edges put in one by one, and sorted; nothing here is about a program. -/
namespace Go.Proofs.YtohljainhkdiiaaGreatDoor
open Go Go.Lib Pl

def Rise (l : List Edg) : Prop := l.Pairwise fun x y => ltE x y = true
theorem lt_trans_E {x y z : Edg} (h1 : ltE x y = true) (h2 : ltE y z = true) : ltE x z = true := by
  rw [ltE_iff] at *; omega
theorem lt_or_E {x y : Edg} (h1 : ltE x y = false) (h2 : x ≠ y) : ltE y x = true := by
  rw [ltE_false] at h1
  rw [ltE_iff]
  rcases h1 with h | ⟨h, h3⟩
  · exact .inl h
  · refine .inr ⟨h.symm, ?_⟩
    rcases Int.lt_or_eq_of_le h3 with h4 | h4
    · exact h4
    · exact absurd (Prod.ext h h4.symm) h2
theorem insE_mem (x : Edg) : ∀ (l : List Edg) (e : Edg), x ∈ insE l e ↔ x ∈ l ∨ x = e
  | [], e => by simp [insE]
  | d :: l, e => by
    have ih := insE_mem x l e
    unfold insE
    split
    · simp only [List.mem_cons, ih, or_assoc]
    · split
      · rename_i h
        subst h
        simp only [List.mem_cons]
        constructor
        · exact .inl
        · rintro (h | h)
          · exact h
          · exact .inl h
      · simp only [List.mem_cons]
        constructor
        · rintro (h | h)
          · exact .inr h
          · exact .inl h
        · rintro (h | h)
          · exact .inr h
          · exact .inl h
theorem insE_rise : ∀ (l : List Edg) (e : Edg), Rise l → Rise (insE l e)
  | [], e, _ => by simp [insE, Rise]
  | d :: l, e, h => by
    have h1 := List.pairwise_cons.1 h
    unfold insE
    split
    · rename_i hd
      refine List.pairwise_cons.2 ⟨fun y hy => ?_, insE_rise l e h1.2⟩
      rcases (insE_mem y l e).1 hy with h2 | h2
      · exact h1.1 y h2
      · rw [h2]; exact hd
    · rename_i hd
      split
      · exact h
      · rename_i hne
        have h3 := lt_or_E (by simpa using hd) hne
        refine List.pairwise_cons.2 ⟨fun y hy => ?_, h⟩
        rcases List.mem_cons.1 hy with h2 | h2
        · rw [h2]; exact h3
        · exact lt_trans_E h3 (h1.1 y h2)
theorem fold_rise : ∀ (es acc : List Edg), Rise acc → Rise (es.foldl insE acc)
  | [], _, h => h
  | e :: es, acc, h => fold_rise es _ (insE_rise acc e h)
theorem fold_mem (x : Edg) : ∀ (es acc : List Edg), x ∈ es.foldl insE acc ↔ x ∈ acc ∨ x ∈ es
  | [], acc => by simp
  | e :: es, acc => by
    rw [List.foldl_cons, fold_mem x es, insE_mem, List.mem_cons, or_assoc]
theorem rise_nodup {l : List Edg} (h : Rise l) : l.Nodup := h.imp fun {x y} h1 e => by
  subst e
  rw [ltE_iff] at h1
  omega
theorem rise_eq : ∀ (l l' : List Edg), Rise l → Rise l' → (∀ x, x ∈ l ↔ x ∈ l') → l = l'
  | [], [], _, _, _ => rfl
  | [], y :: l', _, _, h => by have := (h y).2 (by simp); simp at this
  | x :: l, [], _, _, h => by have := (h x).1 (by simp); simp at this
  | x :: l, y :: l', h1, h2, h => by
    have a1 := List.pairwise_cons.1 h1
    have a2 := List.pairwise_cons.1 h2
    have e : x = y := by
      rcases List.mem_cons.1 ((h x).1 (by simp)) with e | e
      · exact e
      · rcases List.mem_cons.1 ((h y).2 (by simp)) with e' | e'
        · exact e'.symm
        · have b1 := a2.1 x e
          have b2 := a1.1 y e'
          rw [ltE_iff] at b1 b2
          omega
    subst e
    congr 1
    refine rise_eq l l' a1.2 a2.2 fun z => ?_
    have hz := h z
    simp only [List.mem_cons] at hz
    constructor
    · intro m
      rcases hz.1 (.inr m) with e | e
      · subst e
        exact absurd m (fun m => by have := a1.1 _ m; rw [ltE_iff] at this; omega)
      · exact e
    · intro m
      rcases hz.2 (.inr m) with e | e
      · subst e
        exact absurd m (fun m => by have := a2.1 _ m; rw [ltE_iff] at this; omega)
      · exact e
theorem sort_rise {l : List Edg} (h : l.Nodup) : Rise (sortEd l) := by
  have hp : (sortEd l).Perm l := List.mergeSort_perm l _
  have hs : (sortEd l).Pairwise (fun x y => (!ltE y x) = true) := List.pairwise_mergeSort (fun x y z h1 h2 => by
    simp only [Bool.not_eq_true'] at *
    rw [ltE_false] at *
    omega) (fun x y => by
    rw [Bool.or_eq_true, Bool.not_eq_true', Bool.not_eq_true', ltE_false, ltE_false]
    omega) l
  have hn : (sortEd l).Nodup := hp.nodup_iff.2 h
  refine (hs.and hn).imp fun {x y} h => ?_
  have h1 : ltE y x = false := by simpa using h.1
  exact lt_or_E h1 (Ne.symm h.2)
theorem sort_fold {l : List Edg} (h : l.Nodup) : sortEd l = l.foldl insE [] :=
  rise_eq _ _ (sort_rise h) (fold_rise l [] List.Pairwise.nil) fun x => by
    unfold sortEd
    rw [fold_mem, (List.mergeSort_perm l _).mem_iff]
    simp
end Go.Proofs.YtohljainhkdiiaaGreatDoor
/- A numbering: a map and a list of values in a structure. -/
namespace Go.Proofs.YtohljainhkdiiaaGreatDoor
open Go.RowKit Pl

/-! ### the map -/
def nbL : List Nat → Nat → List MapEntry
  | [], _ => []
  | x :: l, i => { key := .int .i64 x, val := .int .i64 i, born := i } :: nbL l (i + 1)
theorem nbL_snoc (x : Nat) : ∀ (l : List Nat) (i : Nat), nbL l i ++ [{ key := .int .i64 x, val := .int .i64 ((i + l.length : Nat) : Int), born := i + l.length }] = nbL (l ++ [x]) i
  | [], i => by simp [nbL]
  | y :: l, i => by
    have h := nbL_snoc x l (i + 1)
    simp only [nbL, List.cons_append, List.length_cons]
    rw [← h, show i + 1 + l.length = i + (l.length + 1) by omega]
theorem find_nb (x : Nat) : ∀ (l : List Nat) (i s : Nat), Instr.findNow (.int .i64) (.int .i64 (x : Int)) (nbL l i) s = some (if x ∈ l then some (s + l.idxOf x, .int .i64 ((i + l.idxOf x : Nat) : Int)) else none)
  | [], i, s => by simp [nbL, Instr.findNow]
  | y :: l, i, s => by
    have ih := find_nb x l (i + 1) (s + 1)
    simp only [nbL, Instr.findNow, Instr.sameNow]
    by_cases e : x = y
    · subst e
      simp
    · have e2 : ((x : Int) == (y : Int)) = false := by simp; omega
      have e3 : (y == x) = false := by simp; omega
      have e4 : (y :: l).idxOf x = l.idxOf x + 1 := by rw [List.idxOf_cons, e3]; rfl
      simp only [ih, e2, List.mem_cons, e, false_or, e4, if_true]
      by_cases h : x ∈ l
      · rw [if_pos h, if_pos h, show s + 1 + l.idxOf x = s + (l.idxOf x + 1) by omega, show i + 1 + l.idxOf x = i + (l.idxOf x + 1) by omega]
      · rw [if_neg h, if_neg h]
theorem look_hitB {P : Program} {w : World} {mty kt et : TypeId} {K : IntKind} {r clock i : Nat} {es : Array MapEntry} {k : Int} {val : Value} (hm : P.underlying mty = some (.map kt et)) (hk : P.underlying kt = some (.int K)) (hb : w.heap[r]? = some (.map es clock))
    (hf : Instr.findNow (.int K) (.int K k) es.toList 0 = some (some (i, val))) : (Instr.lookup mty (.map (some r)) (.int K k) true).run P w = .ok (.tuple #[val, .bool true]) w := by
  have hc : (Instr.checkKey es.isEmpty 10000 kt (.int K k)).run P w = .ok () w := MapKept.run_checkKey (k := .int K k) hk (by simp [MapKept.IsKey]) _ 9999
  simp [Instr.lookup, run_underlying hm, MapKept.run_getObj_map hb, hc, MapKept.run_findKey hk hf, Result.andThen]
theorem look_noB {P : Program} {w : World} {mty kt et : TypeId} {K : IntKind} {r clock : Nat} {es : Array MapEntry} {k : Int} {z : Value} (hm : P.underlying mty = some (.map kt et)) (hk : P.underlying kt = some (.int K)) (hb : w.heap[r]? = some (.map es clock)) (hz : (zeroValue et).run P w = .ok z w)
    (hf : Instr.findNow (.int K) (.int K k) es.toList 0 = some none) : (Instr.lookup mty (.map (some r)) (.int K k) true).run P w = .ok (.tuple #[z, .bool false]) w := by
  have hc : (Instr.checkKey es.isEmpty 10000 kt (.int K k)).run P w = .ok () w := MapKept.run_checkKey (k := .int K k) hk (by simp [MapKept.IsKey]) _ 9999
  simp [Instr.lookup, run_underlying hm, MapKept.run_getObj_map hb, hc, MapKept.run_findKey hk hf, Result.andThen, hz]
/-! ### what else stands -/
/-- three rows are written, one after the other -/
def Nb3 (W W' : World) (r1 r2 r3 : Option Nat) : Prop := ∃ W1 W2, W.grownBy W1 r1 ∧ W1.grownBy W2 r2 ∧ W2.grownBy W' r3
theorem Nb3.own {W W' : World} {r1 r2 r3 : Option Nat} (h : Nb3 W W' r1 r2 r3) {base : Nat} {e : TypeId} {size n : Nat} {v : Value} {xs : List Value} (hO : W.ownsRow base e size v n xs)
    (h1 : v.ownBlock = none ∨ v.ownBlock ≠ r1) (h2 : v.ownBlock = none ∨ v.ownBlock ≠ r2) (h3 : v.ownBlock = none ∨ v.ownBlock ≠ r3) : W'.ownsRow base e size v n xs := by
  obtain ⟨W1, W2, g1, g2, g3⟩ := h
  exact ((hO.kept g1 h1).kept g2 h2).kept g3 h3
theorem Nb3.below {W W' : World} {r1 r2 r3 : Option Nat} (h : Nb3 W W' r1 r2 r3) {B : Nat} (hB : B ≤ W.heap.size) (h1 : ∀ k, r1 = some k → B ≤ k) (h2 : ∀ k, r2 = some k → B ≤ k) (h3 : ∀ k, r3 = some k → B ≤ k) : Below B W W' := by
  obtain ⟨W1, W2, g1, g2, g3⟩ := h
  exact (((Below.refl B W).grown g1 hB h1).grown g2 (Nat.le_trans hB g1.size) h2).grown g3 (Nat.le_trans hB (Nat.le_trans g1.size g2.size)) h3
theorem Nb3.whole {W W' : World} {r1 r2 r3 : Option Nat} (h : Nb3 W W' r1 r2 r3) {g : Nat} {t : TypeId} {cs : Array Value} (hw : Whole W g t cs) (h1 : some g ≠ r1) (h2 : some g ≠ r2) (h3 : some g ≠ r3) : Whole W' g t cs := by
  obtain ⟨W1, W2, g1, g2, g3⟩ := h
  exact ((hw.grown g1 h1).grown g2 h2).grown g3 h3
theorem Nb3.of_below {W W' : World} (h : Below W.heap.size W W') (r1 r2 r3 : Option Nat) : Nb3 W W' r1 r2 r3 := by
  have h0 := below_grown h
  exact ⟨W', W', ⟨h0.os, h0.tape, h0.output, h0.size, fun k hk _ => h.block k hk⟩, ⟨rfl, rfl, rfl, Nat.le_refl _, fun _ _ _ => rfl⟩, ⟨rfl, rfl, rfl, Nat.le_refl _, fun _ _ _ => rfl⟩⟩
theorem map_grown {w : World} {r : Nat} {o : Obj} : w.grownBy { w with heap := w.heap.setIfInBounds r o } (some r) :=
  ⟨rfl, rfl, rfl, by simp, fun k _ hne => by
    show (w.heap.setIfInBounds r o)[k]? = w.heap[k]?
    rw [Array.getElem?_setIfInBounds, if_neg (fun e => hne (by rw [e]))]⟩
/-- a numbering -/
structure NbAt (W : World) (B nb M : Nat) (sv : Value) (L : List Nat) : Prop where
  box : Whole W nb 82 #[.map (some M), sv]
  tab : W.heap[M]? = some (.map (nbL L 0).toArray L.length)
  lst : NumO W B sv (zs L)
theorem tab_whole {W : World} {M g : Nat} {es : Array MapEntry} {c : Nat} {t : TypeId} {cs : Array Value} (h : W.heap[M]? = some (.map es c)) (hw : Whole W g t cs) : g ≠ M := fun e => by
  subst e
  have h9 : W.heap[g]? = _ := hw
  rw [h] at h9
  cases h9
theorem tab_own {W : World} {M base : Nat} {es : Array MapEntry} {c : Nat} {e : TypeId} {size n : Nat} {v : Value} {xs : List Value} (h : W.heap[M]? = some (.map es c)) (hO : W.ownsRow base e size v n xs) : some M ≠ v.ownBlock := by
  rcases hO.2 with ⟨rfl, _⟩ | ⟨g, cap, cur, rfl, _, hh, _⟩
  · simp [Value.ownBlock]
  · intro e9
    simp only [Value.ownBlock, Option.some.injEq] at e9
    subst e9
    rw [h] at hh
    cases hh
theorem tab_kept {W W' : World} {M : Nat} {es : Array MapEntry} {c : Nat} {row : Option Nat} (h : W.heap[M]? = some (.map es c)) (hg : W.grownBy W' row) (hr : some M ≠ row) : W'.heap[M]? = some (.map es c) :=
  (hg.block M (Array.getElem?_eq_some_iff.1 h).1 hr).trans h

set_option maxRecDepth 100000 in
set_option maxHeartbeats 1000000 in
theorem number_any {w : World} {B nb M : Nat} {sv : Value} {L : List Nat} (h : NbAt w B nb M sv L) (hB : B ≤ w.heap.size) (hL : L.length ≤ 5000) (x : Nat) :
    Calls Tryz.prog 37 #[.pointer (some ⟨nb, 0, none⟩), .int .i64 (x : Int)] w fun e w' => ∃ sv', e = .returned (.int .i64 (((cAdd L x).idxOf x : Nat) : Int)) ∧ NbAt w' B nb M sv' (cAdd L x) ∧ Nb3 w w' (some M) sv.ownBlock (some nb) ∧ (sv'.ownBlock = sv.ownBlock ∨ ∃ q, sv'.ownBlock = some q ∧ w.heap.size ≤ q) := by
  obtain ⟨i1, hi1, hz10, hz11, hz12⟩ := info_parts infoNumS
  have H := Lib.hid h
  have k0 := h.box.cell 0
  have k1 := h.box.cell 1
  simp only [List.getElem?_toArray, List.getElem?_cons_succ, List.getElem?_cons_zero] at k0 k1
  by_cases hin : x ∈ L
  · have look := look_hitB (P := Tryz.prog) (i := L.idxOf x) (val := .int .i64 ((L.idxOf x : Nat) : Int)) Tryz.underlying80 Tryz.underlying3 h.tab (k := (x : Int)) (by
      have h9 := find_nb x L 0 0
      rw [if_pos hin, Nat.zero_add] at h9
      exact h9)
    have HC : Hid (cAdd L x = L) := Lib.hid (by unfold cAdd; rw [if_pos hin])
    clear h hin
    go_enter Tryz.func37, Tryz.ntmps37
    go_wp2
    go_ret
    rw [HC.out]
    exact ⟨_, rfl, H.out, Nb3.of_below (Below.refl _ _) _ _ _, .inl rfl⟩
  · have look := look_noB (P := Tryz.prog) Tryz.underlying80 Tryz.underlying3 h.tab (k := (x : Int)) (z := .int .i64 0) (Tryz.zeroValue3 w) (by
      have h9 := find_nb x L 0 0
      rw [if_neg hin] at h9
      exact h9)
    have HC : Hid (cAdd L x = L ++ [x]) := Lib.hid (by unfold cAdd; rw [if_neg hin])
    have HIx : Hid ((L ++ [x]).idxOf x = L.length) := Lib.hid (by rw [List.idxOf_append, if_neg hin]; simp)
    obtain ⟨la, lc, rfl⟩ : ∃ la lc, sv = .slice la L.length lc := by
      obtain ⟨y, z, e⟩ := own_slice' h.lst
      rw [zs_len] at e
      exact ⟨y, z, e⟩
    have upd := upd_new (P := Tryz.prog) (val := .int .i64 ((L.length : Nat) : Int)) Tryz.underlying80 Tryz.underlying3 h.tab (k := (x : Int)) (by
      have h9 := find_nb x L 0 0
      rw [if_neg hin] at h9
      exact h9)
    have hsn : (nbL L 0).toArray.push { key := .int .i64 (x : Int), val := .int .i64 ((L.length : Nat) : Int), born := L.length } = (nbL (L ++ [x]) 0).toArray := by
      have h9 := nbL_snoc x L 0
      simp only [Nat.zero_add] at h9
      rw [← h9]
      simp
    rw [hsn] at upd
    have hg1 := map_grown (w := w) (r := M) (o := .map (nbL (L ++ [x]) 0).toArray (L.length + 1))
    have ht1 := (MapKept.heap_set (o' := .map (nbL (L ++ [x]) 0).toArray (L.length + 1)) h.tab).1
    obtain ⟨w1, HW1⟩ : ∃ z, Hid (({ w with heap := w.heap.setIfInBounds M (.map (nbL (L ++ [x]) 0).toArray (L.length + 1)) } : World) = z) := ⟨_, Lib.hid rfl⟩
    have ht1' : w1.heap[M]? = some (.map (nbL (L ++ [x]) 0).toArray (L.length + 1)) := by rw [← HW1.out]; exact ht1
    rw [HW1.out] at upd hg1
    have hb1 : Whole w1 nb 82 #[.map (some M), .slice la L.length lc] := h.box.grown hg1 (fun e => tab_whole h.tab h.box (by simpa using e))
    have hl1 : w1.ownsRow B 3 1 (.slice la L.length lc) L.length ((zs L).map (Value.int .i64)) := by
      have h9 : w1.ownsRow B 3 1 (.slice la L.length lc) (zs L).length ((zs L).map (Value.int .i64)) := World.ownsRow.kept h.lst hg1 (.inr (tab_own h.tab h.lst).symm)
      rw [zs_len] at h9
      exact h9
    have m0 := hb1.cell 0
    have m1 := hb1.cell 1
    simp only [List.getElem?_toArray, List.getElem?_cons_succ, List.getElem?_cons_zero] at m0 m1
    have n1 := cell_new m1 (.cells #[.int .i64 (x : Int)] 3)
    have HG1 := Lib.hid hg1
    have HB1 := Lib.hid hb1
    have HT1 := Lib.hid ht1'
    have HR1 := Lib.hid (hl1.alloc (.cells #[.int .i64 (x : Int)] 3))
    have hz1 : B ≤ w1.heap.size := Nat.le_trans hB hg1.size
    clear h hin hsn hg1 ht1 ht1' hb1 hl1
    go_enter Tryz.func37, Tryz.ntmps37
    go_upto_region 5 with (fail)
    go_wp2_with (at_builtin; (refine wpList_append_sz rfl (.tmp 33) (.tmp 35) 28 rfl B 3 i1 (.int .i64 0) 1 8 Tryz.underlying28 hi1 hz10 hz11 hz12 rfl (by decide) (.slice la L.length lc) rfl L.length ((zs L).map (Value.int .i64)) HR1.out (some ⟨w1.heap.size, 0, none⟩) 1 1 rfl [.int .i64 (x : Int)] (fun h => by cases h) rfl (one_src _ _ _) (by simp [Value.oneCell']) (by unfold maxLen; omega) (by omega) (by simp; omega) ?_); intro v2 w2 hv2 hg2 hat2; refine Hid.out ?_)
    obtain ⟨a2, q2, rfl⟩ := own_slice hv2
    have kW := (HB1.out.alloc (.cells #[.int .i64 (x : Int)] 3)).grown hg2 (own_whole HR1.out (HB1.out.alloc (.cells #[.int .i64 (x : Int)] 3)) (by decide))
    have f1 := kW.frozen 1
    have f2 := kW.cell 1
    have f3 := kW.lt
    simp only [List.getElem?_toArray, List.getElem?_cons_succ, List.getElem?_cons_zero] at f2
    have HN : Hid (NbAt (w2.setCell ⟨nb, 1, none⟩ (.slice a2 (L.length + 1) q2)) B nb M (.slice a2 (L.length + 1) q2) (L ++ [x])) := Lib.hid (by
      have ta : (w1.alloc (.cells #[.int .i64 (x : Int)] 3)).heap[M]? = some (.map (nbL (L ++ [x]) 0).toArray (L.length + 1)) := tab_kept HT1.out (World.grownBy_alloc w1 _ none) (by simp)
      have tb := tab_kept ta hg2 (tab_own ta HR1.out)
      refine ⟨by simpa using kW.set 1 (.slice a2 (L.length + 1) q2), ?_, ?_⟩
      · have tc := tab_kept tb (grown_self w2 ⟨nb, 1, none⟩ (.slice a2 (L.length + 1) q2)) (fun e => tab_whole tb kW (by simpa using e.symm))
        rw [List.length_append, List.length_singleton]
        exact tc
      · unfold NumO
        rw [zs_snoc, List.length_append, List.length_singleton, zs_len, List.map_append]
        exact own_stored hv2 kW (by decide))
    have H3 : Hid (Nb3 w (w2.setCell ⟨nb, 1, none⟩ (.slice a2 (L.length + 1) q2)) (some M) (Value.slice la L.length lc).ownBlock (some nb)) := Lib.hid
      ⟨w1, w2, HG1.out, (World.grownBy_alloc w1 _ _).trans hg2, grown_self w2 ⟨nb, 1, none⟩ (.slice a2 (L.length + 1) q2)⟩
    have HAt : Hid ((Value.slice a2 (L.length + 1) q2).ownBlock = (Value.slice la L.length lc).ownBlock ∨ ∃ q, (Value.slice a2 (L.length + 1) q2).ownBlock = some q ∧ w.heap.size ≤ q) := Lib.hid (by
      rcases hat2 with e | e
      · exact .inl e
      · exact .inr ⟨_, e, Nat.le_trans HG1.out.size (by simp)⟩)
    clear hv2 hg2 hat2 kW
    refine Lib.hid ?_
    go_wp2
    go_ret
    rw [HC.out, HIx.out]
    exact ⟨_, rfl, HN.out, H3.out, HAt.out⟩
end Go.Proofs.YtohljainhkdiiaaGreatDoor
/- Plain facts: edges led to other states, numbered as they come; nothing here is about a program. -/
namespace Go.Proofs.YtohljainhkdiiaaGreatDoor.Pl
open Go Go.Lib

def redL (L : List Nat) (es : List Edg) : List Edg := es.map fun e => (e.1, (((ordE L es).idxOf e.2.toNat : Nat) : Int))
theorem redL_len (L : List Nat) (es : List Edg) : (redL L es).length = es.length := by simp [redL]
theorem mem_cAdd_self (l : List Nat) (y : Nat) : y ∈ cAdd l y := (cAdd_mem l y y).2 (.inr rfl)
theorem mem_ordE {x : Edg} : ∀ (es : List Edg) (L : List Nat), x ∈ es → x.2.toNat ∈ ordE L es
  | e :: es, L, h => by
    rcases List.mem_cons.1 h with h | h
    · subst h
      exact (ordE_pre es (cAdd L x.2.toNat)).subset (mem_cAdd_self L _)
    · exact mem_ordE es (cAdd L e.2.toNat) h
theorem idx_cAdd {l : List Nat} {x : Nat} (h : x ∈ l) (y : Nat) : (cAdd l y).idxOf x = l.idxOf x := by
  unfold cAdd
  split
  · rfl
  · rw [List.idxOf_append, if_pos h]
theorem redL_next {L : List Nat} {es : List Edg} {j : Nat} (hj : j < es.length) :
    redL L (es.take (j + 1)) = redL L (es.take j) ++ [((edAt es j).1, (((cAdd (ordE L (es.take j)) (edAt es j).2.toNat).idxOf (edAt es j).2.toNat : Nat) : Int))] := by
  have e1 := ordE_next (l := L) hj
  have e2 : edAt es j = es[j] := by simp [edAt, List.getD, hj]
  unfold redL
  rw [e1, e2, List.take_succ_eq_append_getElem hj, List.map_append]
  congr 1
  refine List.map_congr_left fun e he => ?_
  rw [idx_cAdd (mem_ordE _ L he)]
end Go.Proofs.YtohljainhkdiiaaGreatDoor.Pl
