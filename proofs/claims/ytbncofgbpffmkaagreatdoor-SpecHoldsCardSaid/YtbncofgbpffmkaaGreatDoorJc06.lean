/- Texts joined: OwnKit, SOwn. -/
import Derived.Test.YtbncofgbpffmkaaGreatDoorJc05
import Derived.Maps.AppendAt
import Derived.OwnWalk
import Derived.Laws.OwnMore
import Derived.RegionTactic
import Derived.Deep.AppendLies
import Derived.Test.YtbncofgbpffmkaaGreatDoorJc04
/- Rows of the call's own: append from whatever source, rows of different element types; a system in the call's own memory. -/
namespace Go.Proofs.YtbncofgbpffmkaaGreatDoor
open Go.RowKit Pl

theorem add_plainly (b off j : Nat) : (⟨b, off, none⟩ : Addr).add j = ⟨b, off + j, none⟩ := by
  unfold Addr.add
  by_cases h : j = 0
  · rw [if_pos h, h, Nat.add_zero]
  · rw [if_neg h]
/-- what is appended: m elements, the source nil or not -/
def SrcAt (w : World) (ao : Option Addr) (news : List Value) : Prop := ∀ j u, news[j]? = some u → ∃ ad, ao = some ad ∧ w.cell? (ad.add j) = some u
theorem run_append_sz {P : Program} {w : World} (base : Nat) (t ty e : TypeId) (i : TypeInfo) (z : Value) (size bytes : Nat) (ht : P.underlying t = some (.slice e)) (hi : P.info? e = some i) (hz : i.zero = some z)
    (hsize : i.size = size) (hby : i.bytes = bytes) (hzs : z.cells.size = size) (hsz : 0 < size) (v : Value) (n : Nat) (xs : List Value) (hown : w.ownsRow base e size v n xs)
    (ao : Option Addr) (m c : Nat) (news : List Value) (hnil : ao = none → m = 0 ∧ c = 0) (hl : news.length = m * size) (hnews : SrcAt w ao news) (h1 : ∀ u ∈ news, u.oneCell' = true)
    (h63 : n + m ≤ maxLen) (hbytes : (n + m) * bytes ≤ 140737488355328) (hbase : base ≤ w.heap.size) :
    ∃ v' w', (Builtin.append_ #[t, t] ty #[v, .slice ao m c]).run P w = .ok v' w' ∧ w'.ownsRow base e size v' (n + m) (xs ++ news) ∧ w.grownBy w' v.ownBlock ∧ (v'.ownBlock = v.ownBlock ∨ v'.ownBlock = some w.heap.size) := by
  cases ao with
  | none =>
    obtain ⟨rfl, rfl⟩ := hnil rfl
    obtain rfl := List.length_eq_zero_iff.1 (hl.trans (Nat.zero_mul _))
    rw [List.append_nil]
    exact ⟨v, w, run_append_owned_none (w := w) base t ty e i size ht hi v n xs hown, hown, ⟨rfl, rfl, rfl, Nat.le_refl _, fun _ _ _ => rfl⟩, .inl rfl⟩
  | some ad =>
    obtain ⟨v', w', h2, h3, h4, _, h6⟩ := run_append_own_at (P := P) w base t ty e i z size bytes ht hi hz hsize hby hzs hsz v n xs hown ad m c news hl (fun j u hu => by
      obtain ⟨ad', h, hc⟩ := hnews j u hu
      cases h
      exact hc) h1 h63 hbytes hbase
    exact ⟨v', w', h2, h3, h4, h6⟩
theorem wp_append_sz {P : Program} {w : World} {o : Oper} {a : Act} {K : Act → World → Prop} {Q : Exit → Act → World → Prop} (s x : Operand) (t : TypeId)
    (ho : o.op = .call { callee := .builtin .append, args := #[s, x], argTypes := #[t, t] }) (base : Nat) (e : TypeId) (i : TypeInfo) (z : Value) (size bytes : Nat) (ht : P.underlying t = some (.slice e)) (hi : P.info? e = some i) (hz : i.zero = some z)
    (hsize : i.size = size) (hby : i.bytes = bytes) (hzs : z.cells.size = size) (hsz : 0 < size) (v : Value) (hs : a.eval s = v) (n : Nat) (xs : List Value) (hown : w.ownsRow base e size v n xs)
    (ao : Option Addr) (m c : Nat) (hx : a.eval x = .slice ao m c) (news : List Value) (hnil : ao = none → m = 0 ∧ c = 0) (hl : news.length = m * size) (hnews : SrcAt w ao news) (h1 : ∀ u ∈ news, u.oneCell' = true)
    (h63 : n + m ≤ maxLen) (hbytes : (n + m) * bytes ≤ 140737488355328) (hbase : base ≤ w.heap.size)
    (hK : ∀ v' w', w'.ownsRow base e size v' (n + m) (xs ++ news) → w.grownBy w' v.ownBlock → (v'.ownBlock = v.ownBlock ∨ v'.ownBlock = some w.heap.size) → K (a.put o.dst v') w') : Oper.wp P o a w K Q := by
  obtain ⟨v', w', hrun, r1, r2, r3⟩ := run_append_sz (P := P) (w := w) base t o.type e i z size bytes ht hi hz hsize hby hzs hsz v n xs hown ao m c news hnil hl hnews h1 h63 hbytes hbase
  unfold Oper.wp
  simp [execOp, ho, resolve, invoke, builtin, hs, hx, hrun, Result.andThen]
  exact hK v' w' r1 r2 r3
theorem step_append_sz {P : Program} {w : World} {ops : Array Oper} {o : Oper} {a : Act} {K : Act → World → Prop} {Q : Exit → Act → World → Prop} {E : Prop} (hg : o.guard = none) (s x : Operand) (t : TypeId)
    (ho : o.op = .call { callee := .builtin .append, args := #[s, x], argTypes := #[t, t] }) (base : Nat) (e : TypeId) (i : TypeInfo) (z : Value) (size bytes : Nat) (ht : P.underlying t = some (.slice e)) (hi : P.info? e = some i) (hz : i.zero = some z)
    (hsize : i.size = size) (hby : i.bytes = bytes) (hzs : z.cells.size = size) (hsz : 0 < size) (v : Value) (hs : a.eval s = v) (n : Nat) (xs : List Value) (hown : w.ownsRow base e size v n xs)
    (ao : Option Addr) (m c : Nat) (hx : a.eval x = .slice ao m c) (news : List Value) (hnil : ao = none → m = 0 ∧ c = 0) (hl : news.length = m * size) (hnews : SrcAt w ao news) (h1 : ∀ u ∈ news, u.oneCell' = true)
    (h63 : n + m ≤ maxLen) (hbytes : (n + m) * bytes ≤ 140737488355328) (hbase : base ≤ w.heap.size)
    (hK : ∀ v' w', w'.ownsRow base e size v' (n + m) (xs ++ news) → w.grownBy w' v.ownBlock → (v'.ownBlock = v.ownBlock ∨ v'.ownBlock = some w.heap.size) → K (a.put o.dst v') w') :
    if Region.wanted o (yielded ops a.tmps) = true then Oper.wp P o a w K Q else E := by
  rw [if_pos (by simp [Region.wanted, hg])]
  exact wp_append_sz s x t ho base e i z size bytes ht hi hz hsize hby hzs hsz v hs n xs hown ao m c hx news hnil hl hnews h1 h63 hbytes hbase hK
theorem wpList_append_sz {P : Program} {w : World} {ops : Array Oper} {rest : List Oper} {o : Oper} {a : Act} {Q : Exit → Act → World → Prop} (hg : o.guard = none) (s x : Operand) (t : TypeId)
    (ho : o.op = .call { callee := .builtin .append, args := #[s, x], argTypes := #[t, t] }) (base : Nat) (e : TypeId) (i : TypeInfo) (z : Value) (size bytes : Nat) (ht : P.underlying t = some (.slice e)) (hi : P.info? e = some i) (hz : i.zero = some z)
    (hsize : i.size = size) (hby : i.bytes = bytes) (hzs : z.cells.size = size) (hsz : 0 < size) (v : Value) (hs : a.eval s = v) (n : Nat) (xs : List Value) (hown : w.ownsRow base e size v n xs)
    (ao : Option Addr) (m c : Nat) (hx : a.eval x = .slice ao m c) (news : List Value) (hnil : ao = none → m = 0 ∧ c = 0) (hl : news.length = m * size) (hnews : SrcAt w ao news) (h1 : ∀ u ∈ news, u.oneCell' = true)
    (h63 : n + m ≤ maxLen) (hbytes : (n + m) * bytes ≤ 140737488355328) (hbase : base ≤ w.heap.size)
    (h : ∀ v' w', w'.ownsRow base e size v' (n + m) (xs ++ news) → w.grownBy w' v.ownBlock → (v'.ownBlock = v.ownBlock ∨ v'.ownBlock = some w.heap.size) → wpList P ops Q rest (a.put o.dst v') w') : wpList P ops Q (o :: rest) a w :=
  wpList_plain hg fun _ hK => wp_append_sz s x t ho base e i z size bytes ht hi hz hsize hby hzs hsz v hs n xs hown ao m c hx news hnil hl hnews h1 h63 hbytes hbase fun v' w' h2 h3 h4 => hK _ _ (h v' w' h2 h3 h4)

/-! ### rows -/
theorem own_ge {W : World} {base : Nat} {e : TypeId} {size n : Nat} {v : Value} {xs : List Value} (h : W.ownsRow base e size v n xs) : ∀ k, v.ownBlock = some k → base ≤ k := fun k hk => (h.lt k hk).1
/-- rows of different element types lie apart -/
theorem own_apart {W : World} {base base' : Nat} {e e' : TypeId} {size size' n n' : Nat} {v v' : Value} {xs xs' : List Value} (h : W.ownsRow base e size v n xs) (h' : W.ownsRow base' e' size' v' n' xs') (hne : e ≠ e') : v.ownBlock = none ∨ v.ownBlock ≠ v'.ownBlock := by
  rcases h.2 with ⟨rfl, _⟩ | ⟨g, cap, cur, rfl, _, hh, _⟩
  · exact .inl rfl
  · right
    rcases h'.2 with ⟨rfl, _⟩ | ⟨g', cap', cur', rfl, _, hh', _⟩
    · simp [Value.ownBlock]
    · simp only [Value.ownBlock, ne_eq, Option.some.injEq]
      rintro rfl
      rw [hh] at hh'
      injection hh' with hh'
      injection hh' with _ h2
      exact hne h2
/-- a block that is known whole -/
def Whole (w : World) (g : Nat) (t : TypeId) (cs : Array Value) : Prop := w.heap[g]? = some (.cells cs t (0, 0))
theorem Whole.lt {w : World} {g : Nat} {t : TypeId} {cs : Array Value} (h : Whole w g t cs) : g < w.heap.size := (Array.getElem?_eq_some_iff.1 h).1
theorem Whole.cell {w : World} {g : Nat} {t : TypeId} {cs : Array Value} (h : Whole w g t cs) (i : Nat) : w.cell? ⟨g, i, none⟩ = cs[i]? := cell_of_row w g i cs t (0, 0) h
theorem Whole.frozen {w : World} {g : Nat} {t : TypeId} {cs : Array Value} (h : Whole w g t cs) (i : Nat) : w.frozen? ⟨g, i, none⟩ = false := by
  unfold Whole at h
  simp [World.frozen?, h]
theorem Whole.new (w : World) (t : TypeId) (cs : Array Value) : Whole (w.alloc (.cells cs t)) w.heap.size t cs := heap_alloc_new w _
theorem Whole.alloc {w : World} {g : Nat} {t : TypeId} {cs : Array Value} (h : Whole w g t cs) (o : Obj) : Whole (w.alloc o) g t cs := (Below.heap_alloc w o g h.lt).trans h
theorem Whole.below {w w' : World} {g B : Nat} {t : TypeId} {cs : Array Value} (h : Whole w g t cs) (hb : Below B w w') (hg : g < B) : Whole w' g t cs := (hb.block g hg).trans h
theorem Whole.grown {w w' : World} {g : Nat} {t : TypeId} {cs : Array Value} {row : Option Nat} (h : Whole w g t cs) (hb : w.grownBy w' row) (hg : some g ≠ row) : Whole w' g t cs := (hb.block g h.lt hg).trans h
theorem Whole.set {w : World} {g : Nat} {t : TypeId} {cs : Array Value} (h : Whole w g t cs) (i : Nat) (u : Value) : Whole (w.setCell ⟨g, i, none⟩ u) g t (cs.setIfInBounds i u) := by
  unfold Whole at h ⊢
  simp [World.setCell, Array.getElem?_modify, h]
theorem Whole.far {w : World} {g : Nat} {t : TypeId} {cs : Array Value} (h : Whole w g t cs) {p : Addr} (hp : g ≠ p.block) (u : Value) : Whole (w.setCell p u) g t cs := (Below.heap_setCell w p u g hp).trans h
theorem own_whole {W : World} {base g : Nat} {e t : TypeId} {size n : Nat} {v : Value} {xs : List Value} {cs : Array Value} (h : W.ownsRow base e size v n xs) (hw : Whole W g t cs) (hne : e ≠ t) : some g ≠ v.ownBlock := by
  rcases h.2 with ⟨rfl, _⟩ | ⟨g', cap, cur, rfl, _, hh, _⟩
  · simp [Value.ownBlock]
  · simp only [Value.ownBlock, ne_eq, Option.some.injEq]
    rintro rfl
    unfold Whole at hw
    rw [hh] at hw
    injection hw with hw
    injection hw with _ h2
    exact hne h2
theorem grown_self (w : World) (a : Addr) (u : Value) : w.grownBy (w.setCell a u) (some a.block) :=
  ⟨rfl, rfl, rfl, by simp [World.setCell], fun k _ hne => Below.heap_setCell w a u k (fun e => hne (by rw [e]))⟩
/-- a store into a block that is known whole leaves a row of another element type -/
theorem own_stored {W : World} {base g i : Nat} {e t : TypeId} {size n : Nat} {v u : Value} {xs : List Value} {cs : Array Value} (h : W.ownsRow base e size v n xs) (hw : Whole W g t cs) (hne : e ≠ t) : (W.setCell ⟨g, i, none⟩ u).ownsRow base e size v n xs :=
  h.kept (grown_self W _ _) (.inr (own_whole h hw hne).symm)

theorem up_whole {W w' : World} {g : Nat} {t : TypeId} {cs : Array Value} (hb : Below W.heap.size W w') (h : Whole W g t cs) : Whole w' g t cs := h.below hb h.lt
theorem up_cell {W w' : World} {p : Addr} {v : Value} (hb : Below W.heap.size W w') (h : W.cell? p = some v) : w'.cell? p = some v := (hb.cell (World.block_lt_of_cell? W p h)).trans h
theorem own_low {W : World} {base base' : Nat} {e : TypeId} {size n : Nat} {v : Value} {xs : List Value} (h : W.ownsRow base e size v n xs) (hb : base' ≤ base) : W.ownsRow base' e size v n xs :=
  ⟨h.1, by
    rcases h.2 with h1 | ⟨g, cap, cur, h1, h2, h3⟩
    · exact .inl h1
    · exact .inr ⟨g, cap, cur, h1, Nat.le_trans hb h2, h3⟩⟩
/-! ### edges -/
/-- the cells of a list of edges -/
def ecells (l : List Edg) : List Value := l.flatMap fun e => [.int .i64 e.1, .int .i64 e.2]
theorem ecells_length : ∀ l : List Edg, (ecells l).length = l.length * 2
  | [] => rfl
  | e :: l => by
    have := ecells_length l
    unfold ecells at this ⊢
    simp only [List.flatMap_cons, List.length_append, List.length_cons, List.length_nil, this]
    omega
theorem ecells_at : ∀ (l : List Edg) (k : Nat), k < l.length → (ecells l)[k * 2]? = some (.int .i64 (edAt l k).1) ∧ (ecells l)[k * 2 + 1]? = some (.int .i64 (edAt l k).2)
  | [], k, h => by simp at h
  | e :: l, 0, _ => ⟨rfl, rfl⟩
  | e :: l, k + 1, h => by
    have := ecells_at l k (by simpa using h)
    have e1 : ecells (e :: l) = .int .i64 e.1 :: .int .i64 e.2 :: ecells l := rfl
    rw [e1, show (k + 1) * 2 = k * 2 + 1 + 1 by omega]
    simp only [List.getElem?_cons_succ]
    exact this
theorem ecells_app (l l' : List Edg) : ecells (l ++ l') = ecells l ++ ecells l' := by simp [ecells]
theorem ecells_one (l : List Edg) : ∀ u ∈ ecells l, u.oneCell' = true := fun u hu => by
  obtain ⟨e, _, h⟩ := List.mem_flatMap.1 hu
  simp at h
  rcases h with rfl | rfl <;> rfl
theorem edges_src {w : World} {a : Option Addr} {l : List Edg} (h : EdgesIn w a l) : SrcAt w a (ecells l) := fun j u hu => by
  have hj : j < (ecells l).length := (List.getElem?_eq_some_iff.1 hu).1
  rw [ecells_length] at hj
  obtain ⟨b, off, rfl, c1, c2⟩ := h (j / 2) (by omega)
  refine ⟨_, rfl, ?_⟩
  rw [add_plainly]
  obtain ⟨h1, h2⟩ := ecells_at l (j / 2) (by omega)
  rcases Nat.mod_two_eq_zero_or_one j with hm | hm
  · rw [show off + j = off + j / 2 * 2 by omega, c1, ← hu, ← h1]
    congr 1
    omega
  · rw [show off + j = off + j / 2 * 2 + 1 by omega, c2, ← hu, ← h2]
    congr 1
    omega
/-- a list of edges in the call's own memory -/
def EdgeOwn (w : World) (base : Nat) (v : Value) (l : List Edg) : Prop := w.ownsRow base 58 2 v l.length (ecells l)
theorem EdgeOwn.arg {w : World} {base : Nat} {v : Value} {l : List Edg} (h : EdgeOwn w base v l) (hl : l.length ≤ 140737488355328) : ∃ a c, v = .slice a l.length c ∧ EdgeArg w a l.length c l := by
  rcases h.2 with ⟨rfl, h0⟩ | ⟨g, cap, cur, rfl, _, hh, hn, hm, hz, ht⟩
  · have e : l = [] := List.length_eq_zero_iff.1 h0
    subst e
    exact ⟨none, 0, rfl, ⟨fun _ => rfl, rfl, Nat.le_refl _, hl, fun k hk => by simp at hk⟩⟩
  · refine ⟨some ⟨g, 0, none⟩, cap, rfl, ⟨(fun h => by cases h), rfl, hn, hl, fun k hk => ⟨g, 0, rfl, ?_⟩⟩⟩
    obtain ⟨h1, h2⟩ := ecells_at l k hk
    have c1 := h.cells (g := g) rfl _ _ h1
    have c2 := h.cells (g := g) rfl _ _ h2
    rw [add_plainly] at c1 c2
    exact ⟨c1, by rw [Nat.add_assoc]; exact c2⟩

/-- the lists of edges of some states in the call's own memory -/
def RowsOwn (w : World) (base : Nat) (v : Value) (ss : List (List Edg)) : Prop :=
  ∃ rows : List Value, rows.length = ss.length ∧ w.ownsRow base 50 1 v ss.length rows ∧ ∀ i, i < ss.length → ∃ r, rows[i]? = some r ∧ EdgeOwn w base r (stAt ss i)
theorem RowsOwn.none (w : World) (base : Nat) : RowsOwn w base (.slice none 0 0) [] := ⟨[], rfl, World.ownsRow_nil _ _ _ _, fun i hi => by simp at hi⟩
theorem row_one {w : World} {base : Nat} {v : Value} {l : List Edg} (h : EdgeOwn w base v l) : v.oneCell' = true := by
  rcases h.2 with ⟨rfl, _⟩ | ⟨g, cap, cur, rfl, _⟩ <;> rfl
theorem EdgeOwn.kept {w w' : World} {base : Nat} {v : Value} {l : List Edg} {row : Option Nat} (h : EdgeOwn w base v l) (hg : w.grownBy w' row) (hne : v.ownBlock = none ∨ v.ownBlock ≠ row) : EdgeOwn w' base v l := World.ownsRow.kept h hg hne
theorem EdgeOwn.alloc {w : World} {base : Nat} {v : Value} {l : List Edg} (h : EdgeOwn w base v l) (o : Obj) : EdgeOwn (w.alloc o) base v l := World.ownsRow.alloc h o
theorem EdgeOwn.below {w w' : World} {base : Nat} {v : Value} {l : List Edg} (h : EdgeOwn w base v l) (hb : Below w.heap.size w w') : EdgeOwn w' base v l :=
  h.kept (row := Option.none) ⟨hb.os, hb.tape, hb.output, hb.size, fun k hk _ => hb.block k hk⟩ (by cases e : v.ownBlock <;> simp)
theorem RowsOwn.kept {w w' : World} {base : Nat} {v : Value} {ss : List (List Edg)} {row : Option Nat} (h : RowsOwn w base v ss) (hg : w.grownBy w' row) (hne : v.ownBlock = Option.none ∨ v.ownBlock ≠ row)
    (hne' : ∀ r l, EdgeOwn w base r l → r.ownBlock = Option.none ∨ r.ownBlock ≠ row) : RowsOwn w' base v ss := by
  obtain ⟨rows, h1, h2, h3⟩ := h
  refine ⟨rows, h1, h2.kept hg hne, fun i hi => ?_⟩
  obtain ⟨r, h4, h5⟩ := h3 i hi
  exact ⟨r, h4, h5.kept hg (hne' r _ h5)⟩
theorem RowsOwn.below {w w' : World} {base : Nat} {v : Value} {ss : List (List Edg)} (h : RowsOwn w base v ss) (hb : Below w.heap.size w w') : RowsOwn w' base v ss :=
  h.kept (row := Option.none) ⟨hb.os, hb.tape, hb.output, hb.size, fun k hk _ => hb.block k hk⟩ (by cases e : v.ownBlock <;> simp) (fun r _ _ => by cases e : r.ownBlock <;> simp)
theorem RowsOwn.alloc {w : World} {base : Nat} {v : Value} {ss : List (List Edg)} (h : RowsOwn w base v ss) (o : Obj) : RowsOwn (w.alloc o) base v ss :=
  h.below ((Below.refl _ w).alloc (Nat.le_refl _) o)
theorem stAt_snoc (ss : List (List Edg)) (l : List Edg) : stAt (ss ++ [l]) ss.length = l := by simp [stAt, List.getD]
theorem stAt_app (ss ss' : List (List Edg)) (i : Nat) (h : i < ss.length) : stAt (ss ++ ss') i = stAt ss i := by simp [stAt, List.getD, List.getElem?_append_left h]
/-- one list more: what an append of its value leaves -/
theorem RowsOwn.snoc {w w' : World} {base : Nat} {v v' r : Value} {ss : List (List Edg)} {l : List Edg} (h : RowsOwn w base v ss) (hr : EdgeOwn w base r l) (hg : w.grownBy w' v.ownBlock)
    (hown : ∀ rows, w.ownsRow base 50 1 v ss.length rows → rows.length = ss.length → w'.ownsRow base 50 1 v' (ss.length + 1) (rows ++ [r])) : RowsOwn w' base v' (ss ++ [l]) := by
  obtain ⟨rows, h1, h2, h3⟩ := h
  have h4 := hown rows h2 h1
  refine ⟨rows ++ [r], by simp [h1], by simpa using h4, fun i hi => ?_⟩
  rw [List.length_append, List.length_singleton] at hi
  by_cases e : i < ss.length
  · obtain ⟨r', h5, h6⟩ := h3 i e
    exact ⟨r', by rw [List.getElem?_append_left (by omega)]; exact h5, by rw [stAt_app _ _ _ e]; exact h6.kept hg (own_apart h6 h2 (by decide))⟩
  · obtain rfl : i = ss.length := by omega
    exact ⟨r, by rw [List.getElem?_append_right (by omega), h1, Nat.sub_self]; rfl, by rw [stAt_snoc]; exact hr.kept hg (own_apart hr h2 (by decide))⟩
theorem RowsOwn.arg {w : World} {base : Nat} {v : Value} {ss : List (List Edg)} (h : RowsOwn w base v ss) (hl : ∀ i, i < ss.length → (stAt ss i).length ≤ 140737488355328) : ∃ b d, v = .slice b ss.length d ∧ ss.length ≤ d ∧ (b = Option.none → d = 0) ∧ RowsIn w b ss := by
  obtain ⟨rows, h1, h2, h3⟩ := h
  rcases h2.2 with ⟨rfl, h0⟩ | ⟨g, cap, cur, rfl, _, hh, hn, hm, hz, ht⟩
  · have e : ss = [] := List.length_eq_zero_iff.1 h0
    subst e
    exact ⟨Option.none, 0, rfl, Nat.le_refl _, fun _ => rfl, fun i hi => by simp at hi⟩
  · refine ⟨some ⟨g, 0, Option.none⟩, cap, rfl, hn, (fun h => by cases h), fun i hi => ⟨g, 0, rfl, ?_⟩⟩
    obtain ⟨r, h4, h5⟩ := h3 i hi
    obtain ⟨a, c, rfl, hE⟩ := h5.arg (hl i hi)
    have c1 := h2.cells (g := g) rfl _ _ h4
    rw [add_plainly] at c1
    exact ⟨a, _, c, c1, hE⟩
/-- a system in the call's own memory -/
structure SysOwn (w : World) (base : Nat) (va vs : Value) (m : Syst) : Prop where
  acts : w.ownsRow base 9 1 va m.acts.length (m.acts.map Value.string)
  rows : RowsOwn w base vs m.states
theorem SysOwn.arg {w : World} {base : Nat} {va vs : Value} {m : Syst} (h : SysOwn w base va vs m) (h1 : m.acts.length ≤ 140737488355328) (h2 : m.states.length ≤ 140737488355328) (h3 : ∀ i, i < m.states.length → (stAt m.states i).length ≤ 140737488355328)
    (hs : ∀ k, k < m.acts.length → (at_ m.acts k).size ≤ 9223372036854775807) : ∃ a c b d, va = .slice a m.acts.length c ∧ vs = .slice b m.states.length d ∧ SysArg w a m.acts.length c b m.states.length d m := by
  obtain ⟨b, d, rfl, hd, hnil, hrows⟩ := h.rows.arg h3
  rcases h.acts.2 with ⟨rfl, h0⟩ | ⟨g, cap, cur, rfl, hg, hh, hc, hm, hz, ht⟩
  · rw [h0]
    exact ⟨Option.none, 0, b, d, rfl, rfl, ⟨⟨fun _ => rfl, h0.symm, Nat.le_refl _, by omega, fun k hk => by omega, fun j hj => by omega⟩, by omega, hnil, rfl, hd, h2, hrows⟩⟩
  · refine ⟨some ⟨g, 0, Option.none⟩, cap, b, d, rfl, rfl, ⟨⟨(fun h => by cases h), rfl, hc, by omega, hs, fun j hj => ⟨g, 0, rfl, ?_⟩⟩, h1, hnil, rfl, hd, h2, hrows⟩⟩
    have h9 := h.acts.cells (g := g) rfl j (.string (m.acts.getD j ByteArray.empty)) (by rw [List.getElem?_map, List.getElem?_eq_getElem hj]; simp [List.getD, hj])
    rw [add_plainly] at h9
    exact h9
end Go.Proofs.YtbncofgbpffmkaaGreatDoor
/- A specification in the call's own memory. -/
namespace Go.Proofs.YtbncofgbpffmkaaGreatDoor
open Go.RowKit Pl

theorem infoState : (Tryz.prog.info? 52).map (fun i => (i.zero, i.size, i.bytes)) = some (some (.agg #[.slice none 0 0, .slice none 0 0]), 2, 48) := by kernel_rfl
theorem numsrc {w : World} {a : Option Addr} {n c : Nat} {l : List Int} (A : IntArg w a n c l) : SrcAt w a (l.map (Value.int .i64)) := fun j u hu => by
  have hj : j < l.length := by simpa using (List.getElem?_eq_some_iff.1 hu).1
  obtain ⟨b, off, rfl, hc⟩ := A.cells j hj
  refine ⟨_, rfl, ?_⟩
  rw [add_plainly, hc, ← hu, List.getElem?_map, List.getElem?_eq_getElem hj]
  simp [List.getD, hj]
theorem numone (l : List Int) : ∀ u ∈ l.map (Value.int .i64), u.oneCell' = true := fun u hu => by
  obtain ⟨x, _, rfl⟩ := List.mem_map.1 hu
  rfl
theorem IntArg.nils {w : World} {a : Option Addr} {n c : Nat} {l : List Int} (A : IntArg w a n c l) : a = none → n = 0 ∧ c = 0 := fun h => by
  have := A.nil h
  have := A.cap
  omega
theorem pair_src (W : World) (u v : Value) (t : TypeId) : SrcAt (W.alloc (.cells #[u, v] t)) (some ⟨W.heap.size, 0, none⟩) [u, v] := fun j x hx => by
  have hj : j < 2 := by simpa using (List.getElem?_eq_some_iff.1 hx).1
  refine ⟨_, rfl, ?_⟩
  rw [add_plainly, (Whole.new W t #[u, v]).cell, ← hx]
  simp
/-- numbers in the call's own memory -/
def NumO (w : World) (base : Nat) (v : Value) (l : List Int) : Prop := w.ownsRow base 3 1 v l.length (l.map (Value.int .i64))
theorem NumO.one {w : World} {base : Nat} {v : Value} {l : List Int} (h : NumO w base v l) : v.oneCell' = true := by
  rcases h.2 with ⟨rfl, _⟩ | ⟨g, cap, cur, rfl, _⟩ <;> rfl
theorem NumO.kept {w w' : World} {base : Nat} {v : Value} {l : List Int} {row : Option Nat} (h : NumO w base v l) (hg : w.grownBy w' row) (hne : v.ownBlock = none ∨ v.ownBlock ≠ row) : NumO w' base v l := World.ownsRow.kept h hg hne
theorem NumO.alloc {w : World} {base : Nat} {v : Value} {l : List Int} (h : NumO w base v l) (o : Obj) : NumO (w.alloc o) base v l := World.ownsRow.alloc h o
theorem NumO.below {w w' : World} {base : Nat} {v : Value} {l : List Int} (h : NumO w base v l) (hb : Below w.heap.size w w') : NumO w' base v l :=
  h.kept (row := Option.none) ⟨hb.os, hb.tape, hb.output, hb.size, fun k hk _ => hb.block k hk⟩ (by cases e : v.ownBlock <;> simp)
theorem NumO.arg {w : World} {base : Nat} {v : Value} {l : List Int} (h : NumO w base v l) (hl : l.length ≤ 17592186044416) (hr : ∀ j, j < l.length → -9223372036854775808 ≤ l.getD j 0 ∧ l.getD j 0 ≤ 9223372036854775807) :
    ∃ a c, v = .slice a l.length c ∧ NumsArg w a l.length c l := by
  rcases h.2 with ⟨rfl, h0⟩ | ⟨g, cap, cur, rfl, hg, hh, hc, hm, hz, ht⟩
  · rw [h0]
    exact ⟨none, 0, rfl, ⟨⟨fun _ => rfl, h0.symm, Nat.le_refl _, by omega, fun j hj => by omega⟩, by omega, hr⟩⟩
  · refine ⟨some ⟨g, 0, none⟩, cap, rfl, ⟨⟨(fun h => by cases h), rfl, hc, by omega, fun j hj => ⟨g, 0, rfl, ?_⟩⟩, hl, hr⟩⟩
    rw [Nat.zero_add, World.ownsRow.cellAt h j (by omega), List.getElem?_map, List.getElem?_eq_getElem hj, List.getD_eq_getElem?_getD, List.getElem?_eq_getElem hj]
    rfl

def rcells (rows : List (Value × Value)) : List Value := rows.flatMap fun r => [r.1, r.2]
theorem rcells_length : ∀ l : List (Value × Value), (rcells l).length = l.length * 2
  | [] => rfl
  | r :: l => by
    have := rcells_length l
    simp only [rcells, List.flatMap_cons, List.length_append, List.length_cons, List.length_nil] at this ⊢
    omega
theorem rcells_at : ∀ (l : List (Value × Value)) (k : Nat) (r : Value × Value), l[k]? = some r → (rcells l)[k * 2]? = some r.1 ∧ (rcells l)[k * 2 + 1]? = some r.2
  | [], _, _, h => by simp at h
  | x :: l, 0, r, h => by
    simp only [List.getElem?_cons_zero, Option.some.injEq] at h
    subst h
    simp [rcells]
  | x :: l, k + 1, r, h => by
    have := rcells_at l k r (by simpa using h)
    have e : rcells (x :: l) = x.1 :: x.2 :: rcells l := rfl
    rw [e, show (k + 1) * 2 = k * 2 + 1 + 1 by omega]
    simpa using this
theorem rcells_snoc (l : List (Value × Value)) (r : Value × Value) : rcells (l ++ [r]) = rcells l ++ [r.1, r.2] := by simp [rcells]
/-- states in the call's own memory -/
def StesOwn (w : World) (base : Nat) (v : Value) (ss : List Ste) : Prop :=
  ∃ rows : List (Value × Value), rows.length = ss.length ∧ w.ownsRow base 52 2 v ss.length (rcells rows) ∧ ∀ i, i < ss.length → ∃ r, rows[i]? = some r ∧ NumO w base r.1 (teAt ss i).1 ∧ NumO w base r.2 (teAt ss i).2
theorem StesOwn.none (w : World) (base : Nat) : StesOwn w base (.slice none 0 0) [] := ⟨[], rfl, World.ownsRow_nil _ _ _ _, fun i hi => by simp at hi⟩
theorem StesOwn.kept {w w' : World} {base : Nat} {v : Value} {ss : List Ste} {row : Option Nat} (h : StesOwn w base v ss) (hg : w.grownBy w' row) (hne : v.ownBlock = Option.none ∨ v.ownBlock ≠ row)
    (hne' : ∀ r l, NumO w base r l → r.ownBlock = Option.none ∨ r.ownBlock ≠ row) : StesOwn w' base v ss := by
  obtain ⟨rows, h1, h2, h3⟩ := h
  refine ⟨rows, h1, h2.kept hg hne, fun i hi => ?_⟩
  obtain ⟨r, h4, h5, h6⟩ := h3 i hi
  exact ⟨r, h4, h5.kept hg (hne' _ _ h5), h6.kept hg (hne' _ _ h6)⟩
theorem StesOwn.below {w w' : World} {base : Nat} {v : Value} {ss : List Ste} (h : StesOwn w base v ss) (hb : Below w.heap.size w w') : StesOwn w' base v ss :=
  h.kept (row := Option.none) ⟨hb.os, hb.tape, hb.output, hb.size, fun k hk _ => hb.block k hk⟩ (by cases e : v.ownBlock <;> simp) (fun r _ _ => by cases e : r.ownBlock <;> simp)
theorem StesOwn.alloc {w : World} {base : Nat} {v : Value} {ss : List Ste} (h : StesOwn w base v ss) (o : Obj) : StesOwn (w.alloc o) base v ss :=
  h.below ((Below.refl _ w).alloc (Nat.le_refl _) o)
theorem teAt_snoc (ss : List Ste) (t : Ste) : teAt (ss ++ [t]) ss.length = t := by simp [teAt, List.getD]
theorem teAt_app (ss ss' : List Ste) (i : Nat) (h : i < ss.length) : teAt (ss ++ ss') i = teAt ss i := by simp [teAt, List.getD, List.getElem?_append_left h]
/-- one state more: what an append of its two values leaves -/
theorem StesOwn.snoc {w w' : World} {base : Nat} {v v' p q : Value} {ss : List Ste} {t : Ste} (h : StesOwn w base v ss) (hp : NumO w base p t.1) (hq : NumO w base q t.2) (hg : w.grownBy w' v.ownBlock)
    (hown : ∀ rows, w.ownsRow base 52 2 v ss.length (rcells rows) → rows.length = ss.length → w'.ownsRow base 52 2 v' (ss.length + 1) (rcells rows ++ [p, q])) : StesOwn w' base v' (ss ++ [t]) := by
  obtain ⟨rows, h1, h2, h3⟩ := h
  have h4 := hown rows h2 h1
  rw [← rcells_snoc rows (p, q)] at h4
  refine ⟨rows ++ [(p, q)], by simp [h1], by simpa using h4, fun i hi => ?_⟩
  rw [List.length_append, List.length_singleton] at hi
  by_cases e : i < ss.length
  · obtain ⟨r', h5, h6, h7⟩ := h3 i e
    exact ⟨r', by rw [List.getElem?_append_left (by omega)]; exact h5, by rw [teAt_app _ _ _ e]; exact h6.kept hg (own_apart h6 h2 (by decide)), by rw [teAt_app _ _ _ e]; exact h7.kept hg (own_apart h7 h2 (by decide))⟩
  · obtain rfl : i = ss.length := by omega
    exact ⟨(p, q), by rw [List.getElem?_append_right (by omega), h1, Nat.sub_self]; rfl, by rw [teAt_snoc]; exact hp.kept hg (own_apart hp h2 (by decide)), by rw [teAt_snoc]; exact hq.kept hg (own_apart hq h2 (by decide))⟩
/-- numbers that an int can be, and not too many -/
def Fits (l : List Int) : Prop := l.length ≤ 17592186044416 ∧ ∀ j, j < l.length → -9223372036854775808 ≤ l.getD j 0 ∧ l.getD j 0 ≤ 9223372036854775807
theorem NumsArg.fits {w : World} {a : Option Addr} {n c : Nat} {l : List Int} (h : NumsArg w a n c l) : Fits l := ⟨by have := h.few; have := h.arg.len; omega, h.rng⟩
theorem StesOwn.arg {w : World} {base : Nat} {v : Value} {ss : List Ste} (h : StesOwn w base v ss) (hl : ∀ i, i < ss.length → Fits (teAt ss i).1 ∧ Fits (teAt ss i).2) : ∃ b d, v = .slice b ss.length d ∧ ss.length ≤ d ∧ (b = Option.none → d = 0) ∧ StesIn w b ss := by
  obtain ⟨rows, h1, h2, h3⟩ := h
  rcases h2.2 with ⟨rfl, h0⟩ | ⟨g, cap, cur, rfl, _, hh, hn, hm, hz, ht⟩
  · have e : ss = [] := List.length_eq_zero_iff.1 h0
    subst e
    exact ⟨Option.none, 0, rfl, Nat.le_refl _, fun _ => rfl, fun i hi => by simp at hi⟩
  · refine ⟨some ⟨g, 0, Option.none⟩, cap, rfl, hn, (fun h => by cases h), fun i hi => ⟨g, 0, rfl, ?_⟩⟩
    obtain ⟨r, h4, h5, h6⟩ := h3 i hi
    obtain ⟨⟨f1, f2⟩, f3, f4⟩ := hl i hi
    obtain ⟨a1, c1, e1, hE1⟩ := h5.arg f1 f2
    obtain ⟨a2, c2, e2, hE2⟩ := h6.arg f3 f4
    obtain ⟨g1, g2⟩ := rcells_at rows i r h4
    rw [e1] at g1
    rw [e2] at g2
    have k1 := h2.cells (g := g) rfl _ _ g1
    have k2 := h2.cells (g := g) rfl _ _ g2
    rw [add_plainly] at k1 k2
    exact ⟨a1, _, c1, a2, _, c2, k1, by rw [Nat.add_assoc]; exact k2, hE1, hE2⟩
/-- a specification in the call's own memory -/
structure SpcOwn (w : World) (base : Nat) (va vs : Value) (s : Spc) : Prop where
  acts : w.ownsRow base 9 1 va s.acts.length (s.acts.map Value.string)
  rows : StesOwn w base vs s.states
theorem SpcOwn.arg {w : World} {base : Nat} {va vs : Value} {s : Spc} (h : SpcOwn w base va vs s) (h1 : s.acts.length ≤ 140737488355328) (h2 : s.states.length ≤ 140737488355328) (h3 : ∀ i, i < s.states.length → Fits (teAt s.states i).1 ∧ Fits (teAt s.states i).2)
    (hs : ∀ k, k < s.acts.length → (at_ s.acts k).size ≤ 9223372036854775807) : ∃ a c b d, va = .slice a s.acts.length c ∧ vs = .slice b s.states.length d ∧ SpecArg w a s.acts.length c b s.states.length d s := by
  obtain ⟨b, d, rfl, hd, hnil, hrows⟩ := h.rows.arg h3
  rcases h.acts.2 with ⟨rfl, h0⟩ | ⟨g, cap, cur, rfl, hg, hh, hc, hm, hz, ht⟩
  · rw [h0]
    exact ⟨Option.none, 0, b, d, rfl, rfl, ⟨⟨fun _ => rfl, h0.symm, Nat.le_refl _, by omega, fun k hk => by omega, fun j hj => by omega⟩, by omega, hnil, rfl, hd, h2, hrows⟩⟩
  · refine ⟨some ⟨g, 0, Option.none⟩, cap, b, d, rfl, rfl, ⟨⟨(fun h => by cases h), rfl, hc, by omega, hs, fun j hj => ⟨g, 0, rfl, ?_⟩⟩, h1, hnil, rfl, hd, h2, hrows⟩⟩
    have h9 := h.acts.cells (g := g) rfl j (.string (s.acts.getD j ByteArray.empty)) (by rw [List.getElem?_map, List.getElem?_eq_getElem hj]; simp [List.getD, hj])
    rw [add_plainly] at h9
    exact h9
end Go.Proofs.YtbncofgbpffmkaaGreatDoor
