/- Put of the reference: an increasing list with a number in it. -/
import Derived.Test.YtcbmlchlllpnoaaDoorSets
import Derived.Deep.RegionLaw
import Derived.Laws.OwnMore
namespace Go.Proofs.YtcbmlchlllpnoaaDoor
open Go.RowKit Pl

/-- where x belongs -/
def cutL (xs : List Int) (x : Int) : Nat := (xs.takeWhile fun y => decide (y < x)).length
def putL (xs : List Int) (x : Int) : List Int := if xs.getD (cutL xs x) (x + 1) = x then xs else xs.take (cutL xs x) ++ x :: xs.drop (cutL xs x)
theorem cut_eq : ∀ (xs : List Int) (x : Int) (k : Nat), (∀ j, j < k → xs.getD j 0 < x) → k ≤ xs.length → (k = xs.length ∨ ¬ xs.getD k 0 < x) → cutL xs x = k
  | [], x, k, _, hk, _ => by
    have : k = 0 := by simpa using hk
    subst this; rfl
  | y :: xs, x, 0, _, _, h => by
    have hy : ¬ y < x := by
      rcases h with h | h
      · simp at h
      · simpa using h
    simp [cutL, hy]
  | y :: xs, x, k + 1, h1, hk, h2 => by
    have hy : y < x := by simpa using h1 0 (by omega)
    have ih := cut_eq xs x k (fun j hj => by simpa using h1 (j + 1) (by omega)) (by simpa using hk) (by
      rcases h2 with h | h
      · exact Or.inl (by simpa using h)
      · exact Or.inr (by simpa using h))
    unfold cutL at ih ⊢
    rw [List.takeWhile_cons, if_pos (by simpa using hy), List.length_cons, ih]
theorem range_parts (p : Nat → Bool) (y N : Nat) (h : y < N) : (List.range N).filter p = (List.range y).filter p ++ ((if p y then [y] else []) ++ (List.range' (y + 1) (N - y - 1)).filter p) := by
  have h1 : List.range N = List.range y ++ y :: List.range' (y + 1) (N - y - 1) := by
    rw [List.range_eq_range', List.range_eq_range', show N = y + ((N - y - 1) + 1) by omega, ← List.range'_append_1, Nat.zero_add, List.range'_succ]
    congr 4
    omega
  rw [h1, List.filter_append, List.filter_cons]
  cases p y <;> simp
theorem got_put (ys : List Int) (y N : Nat) (h : y < N) : putL ((gotL ys N).map fun k : Nat => (k : Int)) (y : Int) = (gotL (ys ++ [(y : Int)]) N).map fun k : Nat => (k : Int) := by
  have e1 : gotL (ys ++ [(y : Int)]) N = (List.range y).filter (fun j : Nat => ys.contains (j : Int)) ++ ([y] ++ (List.range' (y + 1) (N - y - 1)).filter fun j : Nat => ys.contains (j : Int)) := by
    unfold gotL
    rw [range_parts _ y N h]
    have hy : (ys ++ [(y : Int)]).contains (y : Int) = true := by simp
    rw [hy, if_pos rfl]
    congr 1
    · refine List.filter_congr fun k hk => ?_
      have : k < y := List.mem_range.1 hk
      simp only [List.contains_eq_mem, List.mem_append, List.mem_singleton]
      have : (k : Int) ≠ y := by omega
      simp [this]
    · congr 1
      refine List.filter_congr fun k hk => ?_
      have := List.mem_range'_1.1 hk
      simp only [List.contains_eq_mem, List.mem_append, List.mem_singleton]
      have : (k : Int) ≠ y := by omega
      simp [this]
  have e2 : gotL ys N = (List.range y).filter (fun j : Nat => ys.contains (j : Int)) ++ ((if ys.contains (y : Int) then [y] else []) ++ (List.range' (y + 1) (N - y - 1)).filter fun j : Nat => ys.contains (j : Int)) := range_parts _ y N h
  rw [e1, e2]
  have hA : ∀ k ∈ (List.range y).filter (fun j : Nat => ys.contains (j : Int)), k < y := fun k hk => List.mem_range.1 (List.mem_filter.1 hk).1
  have hB : ∀ k ∈ (List.range' (y + 1) (N - y - 1)).filter (fun j : Nat => ys.contains (j : Int)), y < k := fun k hk => by
    have := List.mem_range'_1.1 (List.mem_filter.1 hk).1
    omega
  generalize (List.range y).filter (fun j : Nat => ys.contains (j : Int)) = A at hA ⊢
  generalize (List.range' (y + 1) (N - y - 1)).filter (fun j : Nat => ys.contains (j : Int)) = B at hB ⊢
  have hlow : ∀ (C : List Nat) j, j < A.length → ((A ++ C).map fun k : Nat => (k : Int)).getD j 0 < y := fun C j hj => by
    have h1 : A[j] < y := hA _ (List.getElem_mem hj)
    rw [List.getD_eq_getElem?_getD, List.getElem?_map, List.getElem?_append_left hj, List.getElem?_eq_getElem hj]
    simp; omega
  cases hc : ys.contains (y : Int)
  · simp only [Bool.false_eq_true, if_false, List.nil_append]
    have hcut : cutL ((A ++ B).map fun k : Nat => (k : Int)) (y : Int) = A.length := by
      refine cut_eq _ _ _ (fun j hj => hlow B j hj) (by simp) ?_
      cases B with
      | nil => left; simp
      | cons b B =>
        right
        have := hB b (List.mem_cons_self ..)
        rw [List.getD_eq_getElem?_getD, List.getElem?_map, List.getElem?_append_right (Nat.le_refl _), Nat.sub_self]
        simp; omega
    unfold putL
    rw [hcut, if_neg ?_]
    · rw [← List.map_take, ← List.map_drop, List.take_left' rfl, List.drop_left' rfl]
      simp
    · rw [List.getD_eq_getElem?_getD, List.getElem?_map, List.getElem?_append_right (Nat.le_refl _), Nat.sub_self]
      cases B with
      | nil => simp; omega
      | cons b B =>
        have := hB b (List.mem_cons_self ..)
        simp; omega
  · simp only [if_true]
    have hcut : cutL ((A ++ ([y] ++ B)).map fun k : Nat => (k : Int)) (y : Int) = A.length := by
      refine cut_eq _ _ _ (fun j hj => hlow ([y] ++ B) j hj) (by simp) (Or.inr ?_)
      rw [List.getD_eq_getElem?_getD, List.getElem?_map, List.getElem?_append_right (Nat.le_refl _), Nat.sub_self]
      simp
    unfold putL
    rw [hcut, if_pos ?_]
    rw [List.getD_eq_getElem?_getD, List.getElem?_map, List.getElem?_append_right (Nat.le_refl _), Nat.sub_self]
    simp

theorem grown_same (w : World) (row : Option Nat) : w.grownBy w row := ⟨rfl, rfl, rfl, Nat.le_refl _, fun _ _ _ => rfl⟩
/-- append onto a row of the call's own, the source nil or not -/
theorem run_append_src {P : Program} {w w0 : World} (t ty e : TypeId) (i : TypeInfo) (z : Value) (bytes : Nat) (ht : P.underlying t = some (.slice e)) (hi : P.info? e = some i) (hz : i.zero = some z)
    (hsize : i.size = 1) (hby : i.bytes = bytes) (hzs : z.cells.size = 1) (v : Value) (n : Nat) (xs : List Value) (hown : w.ownsRow w0.heap.size e 1 v n xs)
    (ao : Option Addr) (m c : Nat) (news : List Value) (hnil : ao = none → m = 0 ∧ c = 0) (hl : news.length = m) (hnews : ∀ j u, news[j]? = some u → ∃ ad, ao = some ad ∧ w.cell? (ad.add j) = some u) (h1 : ∀ u ∈ news, u.oneCell' = true)
    (h63 : n + m ≤ maxLen) (hbytes : (n + m) * bytes ≤ 140737488355328) (hB : Below w0.heap.size w0 w) :
    ∃ v' w', (Builtin.append_ #[t, t] ty #[v, .slice ao m c]).run P w = .ok v' w' ∧ w'.ownsRow w0.heap.size e 1 v' (n + m) (xs ++ news) ∧ w.grownBy w' v.ownBlock ∧ Below w0.heap.size w0 w' := by
  cases ao with
  | none =>
    obtain ⟨rfl, rfl⟩ := hnil rfl
    obtain rfl := List.length_eq_zero_iff.1 hl
    rw [List.append_nil]
    exact ⟨v, w, run_append_owned_none (w := w) w0.heap.size t ty e i 1 ht hi v n xs hown, hown, grown_same _ _, hB⟩
  | some ad =>
    obtain ⟨v', w', h2, h3, h4, _⟩ := run_append_own (P := P) w w0.heap.size t ty e i z 1 bytes ht hi hz hsize hby hzs (by decide) v n xs hown ad m c news (by omega) (fun j u hu => by
      obtain ⟨ad', h, hc⟩ := hnews j u hu
      cases h
      exact hc) h1 h63 hbytes hB.size
    exact ⟨v', w', h2, h3, h4, hB.grown h4 hB.size (own_block_ge hown)⟩
theorem step_append_src {P : Program} {w w0 : World} {ops : Array Oper} {o : Oper} {a : Act} {K : Act → World → Prop} {Q : Exit → Act → World → Prop} {E : Prop} (hg : o.guard = none) (s x : Operand) (t : TypeId)
    (ho : o.op = .call { callee := .builtin .append, args := #[s, x], argTypes := #[t, t] }) (e : TypeId) (i : TypeInfo) (z : Value) (bytes : Nat) (ht : P.underlying t = some (.slice e)) (hi : P.info? e = some i) (hz : i.zero = some z)
    (hsize : i.size = 1) (hby : i.bytes = bytes) (hzs : z.cells.size = 1) (v : Value) (hs : a.eval s = v) (n : Nat) (xs : List Value) (hown : w.ownsRow w0.heap.size e 1 v n xs)
    (ao : Option Addr) (m c : Nat) (hx : a.eval x = .slice ao m c) (news : List Value) (hnil : ao = none → m = 0 ∧ c = 0) (hl : news.length = m) (hnews : ∀ j u, news[j]? = some u → ∃ ad, ao = some ad ∧ w.cell? (ad.add j) = some u) (h1 : ∀ u ∈ news, u.oneCell' = true)
    (h63 : n + m ≤ maxLen) (hbytes : (n + m) * bytes ≤ 140737488355328) (hB : Below w0.heap.size w0 w)
    (hK : ∀ v' w', w'.ownsRow w0.heap.size e 1 v' (n + m) (xs ++ news) → w.grownBy w' v.ownBlock → Below w0.heap.size w0 w' → K (a.put o.dst v') w') :
    if Region.wanted o (yielded ops a.tmps) = true then Oper.wp P o a w K Q else E := by
  rw [if_pos (by simp [Region.wanted, hg])]
  obtain ⟨v', w', hrun, r1, r2, r3⟩ := run_append_src (P := P) (w := w) (w0 := w0) t o.type e i z bytes ht hi hz hsize hby hzs v n xs hown ao m c news hnil hl hnews h1 h63 hbytes hB
  unfold Oper.wp
  simp [execOp, ho, resolve, invoke, builtin, hs, hx, hrun, Result.andThen]
  exact hK v' w' r1 r2 r3

theorem ints_one (xs : List Int) : ∀ u ∈ xs.map (Value.int .i64), u.oneCell' = true := fun u hu => by
  rw [List.mem_map] at hu
  obtain ⟨x, _, rfl⟩ := hu
  rfl
theorem ints_at {w : World} {a : Option Addr} {xs : List Int} (h : IntsIn w a xs) : ∀ j u, (xs.map (Value.int .i64))[j]? = some u → ∃ ad, a = some ad ∧ w.cell? (ad.add j) = some u := fun j u hu => by
  rw [List.getElem?_map, Option.map_eq_some_iff] at hu
  obtain ⟨x, hx, rfl⟩ := hu
  obtain ⟨b, off, rfl, hc⟩ := h j (List.getElem?_eq_some_iff.1 hx).1
  refine ⟨_, rfl, ?_⟩
  rw [add_off, hc, List.getD_eq_getElem?_getD, hx]
  rfl
theorem ints_take {w : World} {a : Option Addr} {xs : List Int} (h : IntsIn w a xs) (k : Nat) : IntsIn w a (xs.take k) := fun j hj => by
  rw [List.length_take] at hj
  obtain ⟨b, off, rfl, hc⟩ := h j (by omega)
  refine ⟨b, off, rfl, ?_⟩
  rw [List.getD_eq_getElem?_getD, List.getElem?_take, if_pos (by omega), ← List.getD_eq_getElem?_getD]
  exact hc
theorem IntsIn.from {w : World} {a : Option Addr} {xs : List Int} (h : IntsIn w a xs) (k c : Nat) (hc : xs.length ≤ c) : IntsIn w (if c = k then a else a.map fun x => x.add k) (xs.drop k) := fun j hj => by
  rw [List.length_drop] at hj
  obtain ⟨b, off, rfl, hcell⟩ := h (k + j) (by omega)
  have e : (xs.drop k).getD j 0 = xs.getD (k + j) 0 := by simp [List.getD]
  rw [e, if_neg (by omega)]
  exact ⟨b, off + k, by simp [add_off], by rw [Nat.add_assoc]; exact hcell⟩

theorem one_at (W : World) (x : Int) (t : TypeId) : ∀ j u, [Value.int .i64 x][j]? = some u → ∃ ad, some (⟨W.heap.size, 0, none⟩ : Addr) = some ad ∧ (W.alloc (.cells #[.int .i64 x] t)).cell? (ad.add j) = some u := fun j u hu => by
  have hj : j = 0 := by
    have := (List.getElem?_eq_some_iff.1 hu).1
    simp at this
    exact this
  subst hj
  simp only [List.getElem?_cons_zero, Option.some.injEq] at hu
  subst hu
  exact ⟨_, rfl, by rw [add_off]; exact cell_new W (.int .i64 x) t⟩
theorem one_kept {W W' : World} {x : Int} {t : TypeId} (hg : (W.alloc (.cells #[.int .i64 x] t)).grownBy W' none) : ∀ j u, [Value.int .i64 x][j]? = some u → ∃ ad, some (⟨W.heap.size, 0, none⟩ : Addr) = some ad ∧ W'.cell? (ad.add j) = some u := fun j u hu => by
  obtain ⟨ad, h, hc⟩ := one_at W x t j u hu
  cases h
  refine ⟨_, rfl, ?_⟩
  rw [add_off] at hc ⊢
  rw [World.cell?_of_block (hg.block W.heap.size (by simp) (by simp))]
  exact hc
theorem put_row {w w' : World} {v : Value} {xs : List Int} {x : Int} {n k : Nat} (hn : n = xs.length) (hk : k ≤ n) (hr : n ≤ 256) (hP : putL xs x = (xs.take k ++ [x]) ++ xs.drop k)
    (h : w'.ownsRow w.heap.size 3 1 v (0 + k + 1 + (n - k)) ([] ++ (xs.take k).map (Value.int .i64) ++ [Value.int .i64 x] ++ (xs.drop k).map (Value.int .i64))) : ∃ a' n' c', v = .slice a' n' c' ∧ IntArg w' a' n' c' (putL xs x) := by
  have h1 : w'.ownsRow w.heap.size 3 1 v (0 + k + 1 + (n - k)) ((putL xs x).map (Value.int .i64)) := by
    rw [hP]
    simpa using h
  obtain ⟨a', c', hv, hI⟩ := ints_of_row h1 (by rw [hP]; simp; omega) (by omega)
  exact ⟨a', _, c', hv, hI⟩

theorem put_end {w w' : World} {v : Value} {xs : List Int} {x : Int} {n : Nat} (hn : n = xs.length) (hr : n ≤ 256) (hP : putL xs x = xs ++ [x])
    (h : w'.ownsRow w.heap.size 3 1 v (n + 1) (xs.map (Value.int .i64) ++ [Value.int .i64 x])) : ∃ a' n' c', v = .slice a' n' c' ∧ IntArg w' a' n' c' (putL xs x) := by
  have h1 : w'.ownsRow w.heap.size 3 1 v (n + 1) ((putL xs x).map (Value.int .i64)) := by
    rw [hP, List.map_append]
    exact h
  obtain ⟨a', c', hv, hI⟩ := ints_of_row h1 (by rw [hP]; simp; omega) (by omega)
  exact ⟨a', _, c', hv, hI⟩

set_option maxRecDepth 100000 in
set_option maxHeartbeats 4000000 in
theorem Put_any {w : World} {a : Option Addr} {n c : Nat} {xs : List Int} (x : Int) (X : IntArg w a n c xs) (hr : n ≤ 256) :
    Calls Tryd.prog 22 #[.slice a n c, .int .i64 x] w fun e w' => ∃ a' n' c', e = .returned (.slice a' n' c') ∧ IntArg w' a' n' c' (putL xs x) ∧ Below w.heap.size w w' := by
  obtain ⟨i0, hi, hz0, hz1, hz2⟩ := info_parts infoInt
  have HX := Lib.hid X
  have HN := Lib.hid X.len
  clear X
  go_enter Tryd.func22, Tryd.ntmps22
  go_wp2
  go_loop [5] (fun i => ∃ k : Nat, k ≤ n ∧ i = .int .i64 k ∧ Hid (∀ j, j < k → xs.getD j 0 < x)) (fun i => n - (intOf i).toNat)
  case atStart => exact ⟨0, Nat.zero_le _, rfl, Lib.hid fun j hj => absurd hj (Nat.not_lt_zero _)⟩
  case round =>
    obtain ⟨k, hk, rfl, hlow⟩ := hrel
    by_cases hlt : k < n
    · obtain ⟨b, off, rfl, hcell⟩ := HX.out.cells k (by have := HN.out; omega)
      obtain ⟨y, HY⟩ : ∃ y, Hid (xs.getD k 0 = y) := ⟨_, Lib.hid rfl⟩
      rw [HY.out] at hcell
      by_cases hy : y < x
      · go_wp2
        go_round
        case rel =>
          refine ⟨k + 1, by omega, by go_num, Lib.hid fun j hj => ?_⟩
          by_cases e : j = k
          · subst e; rw [HY.out]; exact hy
          · exact hlow.out j (by omega)
        case measure => simp [intOf]; omega
      · have HC : Hid (cutL xs x = k) := Lib.hid (cut_eq xs x k hlow.out (by have := HN.out; omega) (Or.inr (by rw [HY.out]; exact hy)))
        by_cases he : y = x
        · have HP : Hid (putL xs x = xs) := Lib.hid (by
            unfold putL
            rw [HC.out, if_pos]
            have hk' : k < xs.length := by have := HN.out; omega
            have h2 := HY.out
            rw [List.getD_eq_getElem?_getD, List.getElem?_eq_getElem hk'] at h2 ⊢
            exact h2.trans he)
          subst he
          go_wp2
          go_ret
          exact ⟨_, _, _, rfl, by rw [HP.out]; exact HX.out, Below.refl _ _⟩
        · have HP : Hid (putL xs x = (xs.take k ++ [x]) ++ xs.drop k) := Lib.hid (by
            unfold putL
            rw [HC.out, if_neg, List.append_assoc]
            · rfl
            · have hk' : k < xs.length := by have := HN.out; omega
              have h2 := HY.out
              rw [List.getD_eq_getElem?_getD, List.getElem?_eq_getElem hk'] at h2 ⊢
              exact fun h => he (h2.symm.trans h))
          have H1 : Hid (((xs.take k).map (Value.int .i64)).length = k) := Lib.hid (by have := HN.out; rw [List.length_map, List.length_take]; omega)
          have H2 : Hid (∀ W', Below w.heap.size w W' → IntsIn W' (some ⟨b, off, none⟩) (xs.take k)) := Lib.hid fun W' hb => ints_take (HX.out.cells.below hb) k
          have H3 : Hid (((xs.drop k).map (Value.int .i64)).length = n - k) := Lib.hid (by have := HN.out; rw [List.length_map, List.length_drop]; omega)
          have hcap := HX.out.cap
          have hck : ¬ c = k := by omega
          have hkc : k ≤ c := by omega
          have H4 : Hid (∀ W', Below w.heap.size w W' → IntsIn W' (some ⟨b, off + k, none⟩) (xs.drop k)) := Lib.hid fun W' hb => by
            have h := (HX.out.cells.below hb).from k c (by have := HN.out; omega)
            rw [if_neg hck, Option.map_some, add_off] at h
            exact h
          have HX1 : Hid (some (⟨b, off, none⟩ : Addr) = none → k = 0 ∧ c = 0) := Lib.hid fun h => (by cases h)
          have HX3 : Hid (some (⟨b, off + k, none⟩ : Addr) = none → n - k = 0 ∧ c - k = 0) := Lib.hid fun h => (by cases h)
          go_wp2_with fail
          go_region_law (first
            | (refine step_append_src (w0 := w) rfl (.const (.slice none 0 0)) (.tmp 35) 33 rfl 3 i0 (.int .i64 0) 8 Tryd.underlying33 hi hz0 hz1 hz2 rfl _ (by rfl) 0 [] (World.ownsRow_nil _ _ _ _) _ _ _ (by rfl) ((xs.take k).map (Value.int .i64)) HX1.out H1.out (ints_at (H2.out _ (by first | exact (Below.refl _ w).drew | exact ((Below.refl _ w).drew.alloc (Nat.le_refl _) _)))) (ints_one _) (by unfold maxLen; omega) (by omega) (by first | exact (Below.refl _ w).drew | exact ((Below.refl _ w).drew.alloc (Nat.le_refl _) _)) ?_; intro v1 w1 hown1 hg1 hB1)
            | (refine step_append_src (w0 := w) rfl (.tmp 36) (.tmp 38) 33 rfl 3 i0 (.int .i64 0) 8 Tryd.underlying33 hi hz0 hz1 hz2 rfl _ (by rfl) (0 + k) _ (by first | exact hown1 | exact hown1.alloc _) _ 1 1 (by rfl) [.int .i64 x] (fun h => by cases h) rfl (by first | exact one_at _ _ _ | exact one_kept (W := w.drew) hg1) (by simp [Value.oneCell']) (by unfold maxLen; omega) (by omega) (by first | exact hB1 | exact hB1.alloc hB1.size _) ?_; intro v2 w2 hown2 hg2 hB2)
            | (refine step_append_src (w0 := w) rfl (.tmp 39) (.tmp 42) 33 rfl 3 i0 (.int .i64 0) 8 Tryd.underlying33 hi hz0 hz1 hz2 rfl _ (by rfl) (0 + k + 1) _ hown2 _ _ _ (by rfl) ((xs.drop k).map (Value.int .i64)) HX3.out H3.out (ints_at (H4.out _ hB2)) (ints_one _) (by unfold maxLen; omega) (by omega) hB2 ?_; intro v3 w3 hown3 hg3 hB3))
          all_goals go_wp2
          all_goals
            obtain ⟨a', n', c', rfl, hI⟩ := put_row HN.out (by omega) hr HP.out hown3
            go_ret
            exact ⟨_, _, _, rfl, hI, hB3⟩
    · obtain rfl : k = n := by omega
      have HC : Hid (cutL xs x = k) := Lib.hid (cut_eq xs x k hlow.out (by have := HN.out; omega) (Or.inl HN.out))
      have HP : Hid (putL xs x = xs ++ [x]) := Lib.hid (by
        have h1 := HN.out
        have hnc : ¬ xs.getD k (x + 1) = x := by
          rw [List.getD_eq_getElem?_getD, List.getElem?_eq_none (by omega), Option.getD_none]
          omega
        unfold putL
        rw [HC.out, if_neg hnc, List.take_of_length_le (by omega), List.drop_eq_nil_of_le (by omega)])
      have H1 : Hid ((xs.map (Value.int .i64)).length = k) := Lib.hid (by have := HN.out; rw [List.length_map]; omega)
      have hcap := HX.out.cap
      cases a with
      | none =>
        obtain rfl := HX.out.nil rfl
        obtain rfl : k = 0 := by omega
        have H2 : Hid (∀ W', Below w.heap.size w W' → IntsIn W' none xs) := Lib.hid fun W' hb => HX.out.cells.below hb
        go_wp2_with fail
        go_region_law (first
          | (refine step_append_src (w0 := w) rfl (.const (.slice none 0 0)) (.tmp 35) 33 rfl 3 i0 (.int .i64 0) 8 Tryd.underlying33 hi hz0 hz1 hz2 rfl _ (by rfl) 0 [] (World.ownsRow_nil _ _ _ _) _ _ _ (by rfl) (xs.map (Value.int .i64)) (by intro h; first | exact ⟨rfl, rfl⟩ | cases h) H1.out (ints_at (H2.out _ (by first | exact (Below.refl _ w).drew | exact ((Below.refl _ w).drew.alloc (Nat.le_refl _) _)))) (ints_one _) (by unfold maxLen; omega) (by omega) (by first | exact (Below.refl _ w).drew | exact ((Below.refl _ w).drew.alloc (Nat.le_refl _) _)) ?_; intro v1 w1 hown1 hg1 hB1)
          | (refine step_append_src (w0 := w) rfl (.tmp 36) (.tmp 38) 33 rfl 3 i0 (.int .i64 0) 8 Tryd.underlying33 hi hz0 hz1 hz2 rfl _ (by rfl) (0 + 0) _ (by first | exact hown1 | exact hown1.alloc _) _ 1 1 (by rfl) [.int .i64 x] (fun h => by cases h) rfl (by first | exact one_at _ _ _ | exact one_kept (W := w.drew) hg1) (by simp [Value.oneCell']) (by unfold maxLen; omega) (by omega) (by first | exact hB1 | exact hB1.alloc hB1.size _) ?_; intro v2 w2 hown2 hg2 hB2)
          | (refine step_append_src (w0 := w) rfl (.tmp 39) (.tmp 42) 33 rfl 3 i0 (.int .i64 0) 8 Tryd.underlying33 hi hz0 hz1 hz2 rfl _ (by rfl) (0 + 0 + 1) _ hown2 _ _ _ (by rfl) [] (by intro h; first | exact ⟨rfl, rfl⟩ | cases h | (split at h <;> cases h)) (by simp) (fun j u hu => by simp at hu) (fun u hu => by cases hu) (by unfold maxLen; omega) (by omega) hB2 ?_; intro v3 w3 hown3 hg3 hB3))
        all_goals go_wp2
        all_goals
          obtain ⟨a', n', c', rfl, hI⟩ := put_end HN.out hr HP.out (by simpa using hown3)
          go_ret
          exact ⟨_, _, _, rfl, hI, hB3⟩
      | some ad =>
        have H2 : Hid (∀ W', Below w.heap.size w W' → IntsIn W' (some ad) xs) := Lib.hid fun W' hb => HX.out.cells.below hb
        go_wp2_with fail
        go_region_law (first
          | (refine step_append_src (w0 := w) rfl (.const (.slice none 0 0)) (.tmp 35) 33 rfl 3 i0 (.int .i64 0) 8 Tryd.underlying33 hi hz0 hz1 hz2 rfl _ (by rfl) 0 [] (World.ownsRow_nil _ _ _ _) _ _ _ (by rfl) (xs.map (Value.int .i64)) (by intro h; first | exact ⟨rfl, rfl⟩ | cases h) H1.out (ints_at (H2.out _ (by first | exact (Below.refl _ w).drew | exact ((Below.refl _ w).drew.alloc (Nat.le_refl _) _)))) (ints_one _) (by unfold maxLen; omega) (by omega) (by first | exact (Below.refl _ w).drew | exact ((Below.refl _ w).drew.alloc (Nat.le_refl _) _)) ?_; intro v1 w1 hown1 hg1 hB1)
          | (refine step_append_src (w0 := w) rfl (.tmp 36) (.tmp 38) 33 rfl 3 i0 (.int .i64 0) 8 Tryd.underlying33 hi hz0 hz1 hz2 rfl _ (by rfl) (0 + k) _ (by first | exact hown1 | exact hown1.alloc _) _ 1 1 (by rfl) [.int .i64 x] (fun h => by cases h) rfl (by first | exact one_at _ _ _ | exact one_kept (W := w.drew) hg1) (by simp [Value.oneCell']) (by unfold maxLen; omega) (by omega) (by first | exact hB1 | exact hB1.alloc hB1.size _) ?_; intro v2 w2 hown2 hg2 hB2)
          | (refine step_append_src (w0 := w) rfl (.tmp 39) (.tmp 42) 33 rfl 3 i0 (.int .i64 0) 8 Tryd.underlying33 hi hz0 hz1 hz2 rfl _ (by rfl) (0 + k + 1) _ hown2 _ _ _ (by rfl) [] (by intro h; first | exact ⟨rfl, rfl⟩ | cases h | (split at h <;> cases h)) (by simp) (fun j u hu => by simp at hu) (fun u hu => by cases hu) (by unfold maxLen; omega) (by omega) hB2 ?_; intro v3 w3 hown3 hg3 hB3))
        all_goals go_wp2
        all_goals
          obtain ⟨a', n', c', rfl, hI⟩ := put_end HN.out hr HP.out (by simpa using hown3)
          go_ret
          exact ⟨_, _, _, rfl, hI, hB3⟩
end Go.Proofs.YtcbmlchlllpnoaaDoor
