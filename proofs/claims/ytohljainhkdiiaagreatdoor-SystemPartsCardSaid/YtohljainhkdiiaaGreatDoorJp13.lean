/- Texts joined: Range, Range2, SpecPl. -/
import Derived.RangeFuncNested
import Derived.RangeFuncBound
import Derived.RangeFuncCalls
import Derived.RangeFuncLeaves
import Derived.Shelf.RegionOpen
import Derived.WalkKit
import Derived.OwnWalkIn
import Derived.TacticsInMore
import Derived.LoopNIn
import Derived.LoopIn
import Derived.Maps.AppendAt
import Derived.Test.YtohljainhkdiiaaGreatDoorJp02
/- A range over a function, as its caller sees it: one invariant of the caller's own, one walk of the body, one walk of the iterator. Nothing here is about a program. -/
namespace Go.Proofs.YtohljainhkdiiaaGreatDoor
open Go.RowKit

theorem addr_add (g j : Nat) : (⟨g, 0, none⟩ : Addr).add j = ⟨g, j, none⟩ := by
  unfold Addr.add
  by_cases h : j = 0
  · rw [if_pos h, h]
  · rw [if_neg h, Nat.zero_add]
theorem cell_first (w : World) (v : Value) (t : TypeId) : (w.alloc (.cells #[v] t)).cell? ⟨w.heap.size, 0, none⟩ = some v := (Boxed.new w t v).cell
theorem ownsRow_lower {w : World} {base base' : Nat} {e : TypeId} {size : Nat} {v : Value} {n : Nat} {xs : List Value} (h : w.ownsRow base e size v n xs) (hb : base' ≤ base) : w.ownsRow base' e size v n xs := by
  obtain ⟨h1, h2 | ⟨g, cap, cur, hv, hg, r⟩⟩ := h
  · exact ⟨h1, .inl h2⟩
  · exact ⟨h1, .inr ⟨g, cap, cur, hv, Nat.le_trans hb hg, r⟩⟩
/-- an owned row lies on where nothing that lay has turned -/
theorem ownsRow_below {w w' : World} {base : Nat} {e : TypeId} {size : Nat} {v : Value} {n : Nat} {xs : List Value} (h : w.ownsRow base e size v n xs) (hb : Below w.heap.size w w') : w'.ownsRow base e size v n xs := by
  obtain ⟨h1, h2 | ⟨g, cap, cur, hv, hg, hh, r⟩⟩ := h
  · exact ⟨h1, .inl h2⟩
  · exact ⟨h1, .inr ⟨g, cap, cur, hv, hg, (hb.block _ (Array.getElem?_eq_some_iff.1 hh).1).trans hh, r⟩⟩

/-- whatever is no cells, and lay at or beyond B, lies as it lay -/
structure Stays (B : Nat) (V W : World) : Prop where
  size : V.heap.size ≤ W.heap.size
  same : ∀ (k : Nat) (o : Obj), B ≤ k → V.heap[k]? = some o → o.isCells = false → W.heap[k]? = some o
theorem Stays.refl (B : Nat) (V : World) : Stays B V V := ⟨Nat.le_refl _, fun _ _ _ h _ => h⟩
theorem Stays.trans {B : Nat} {U V W : World} (h : Stays B U V) (k : Stays B V W) : Stays B U W :=
  ⟨Nat.le_trans h.size k.size, fun i o hi ho hc => k.same i o hi (h.same i o hi ho hc) hc⟩
theorem Stays.below {B : Nat} {V W : World} (h : Below V.heap.size V W) : Stays B V W :=
  ⟨h.size, fun k _ _ hk _ => (h.block k (Array.getElem?_eq_some_iff.1 hk).1).trans hk⟩
theorem Stays.others {B : Nat} {V W : World} (h : KeepsOthers V W) : Stays B V W := ⟨h.size, fun k o _ hk ho => h.same k o hk ho⟩
theorem Stays.setCell (B : Nat) (V : World) (a : Addr) (v : Value) : Stays B V (V.setCell a v) := .others (KeepsOthers.setCell V a v)
theorem Stays.alloc (B : Nat) (V : World) (o : Obj) : Stays B V (V.alloc o) := .others (KeepsOthers.alloc V o)
theorem Stays.drew (B : Nat) (V : World) : Stays B V V.drew := .others (KeepsOthers.drew V)

/-- how a round's body may be left -/
def leftPost {α : Type} (B : Nat) (I : List α → World → Prop) (Ix : Code → List α → World → Prop) (xs : List α) (V : World) : Exit → Act → World → Prop
  | .normal, _, W => Stays B V W ∧ I xs W
  | .ret, _, W => Stays B V W ∧ Ix .ret xs W
  | .exit id, _, W => Stays B V W ∧ Ix (.exit id) xs W
  | .goto t, _, W => Stays B V W ∧ Ix (.goto t) xs W
  | .panic _, _, _ => False
  | .outgrown, _, _ => False

/-- what an iterator owes its caller; σ: what the caller's invariant says of the iterator's own state, which a round leaves as it is -/
def IterG {σ α : Type} (P : Program) (gf : Nat) (lb : Array Value) (encs : α → Array Value) (ok : List α → α → Prop) (S : List α → Prop) (B : Nat) (I : σ → List α → World → Prop) (Ix : Code → List α → World → Prop) (s0 : σ) : Prop :=
  ∀ (l : Nat) (Bk : World → Prop) (Bx : Code → World → Prop) (W : World),
    (∀ V V', Bk V → Stays B V V' → Bk V') → (∀ c V V', Bx c V → Stays B V V' → Bx c V') →
    (∀ s pre x V, I s pre V → Bk V → ok pre x → YieldAt Fence.wide 1 P l (encs x) V fun e V' =>
      (e = .returned (.bool true) ∧ I s (pre ++ [x]) V' ∧ Bk V') ∨ (e = .returned (.bool false) ∧ ∃ c, Ix c (pre ++ [x]) V' ∧ Bx c V')) →
    I s0 [] W → Bk W →
    CallsIn Fence.wide 2 P gf (#[.func (.yield l) #[] #[]] ++ lb) W fun e V' => (∃ v, e = .returned v) ∧ ((∃ xs s, S xs ∧ I s xs V' ∧ Bk V') ∨ (∃ pre c, Ix c pre V' ∧ Bx c V'))

theorem range_lawG {σ α : Type} {P : Program} {g : Operand} {ps : Array Tmp} {assign body : Code} {Q : Exit → Act → World → Prop} {a : Act} {w : World} {gf : Nat} {lb : Array Value}
    (hg : a.eval g = .func (.func gf) #[] lb) (eg : ∀ args w, (callFunc gf args).run P w = .ok (.enter gf args) w)
    {encs : α → Array Value} (hps : ∀ x, (encs x).size = ps.size) {ok : List α → α → Prop} {S : List α → Prop}
    (I : σ → List α → World → Prop) (Ix : Code → List α → World → Prop) (hI : ∀ s, OwnFrom w.heap.size (I s)) (hIx : ∀ c, OwnFrom w.heap.size (Ix c)) (s0 : σ) (h0 : I s0 [] w) (a₁ : α → Act)
    (hit : IterG P gf lb encs ok S w.heap.size I Ix s0)
    (hassign : ∀ (l : Nat) (x : α) (W : World) (K : Act → World → Prop), K (a₁ x) W →
      assign.wpIn (Fence.wide.inRound l) 1 P (Exit.then K (fun _ _ _ => False)) { tmps := (ps.zip (encs x)).foldl (fun t (p, v) => t.setIfInBounds p v) a.tmps, defers := [] } W)
    (hbody : ∀ (s : σ) (l : Nat) (pre : List α) (x : α) (W : World), I s pre W → ok pre x → body.wpIn (Fence.wide.inRound l) 1 P (leftPost w.heap.size (I s) Ix (pre ++ [x]) W) (a₁ x) W)
    (hdone : ∀ (D : Nat) (xs : List α) (s : σ) (W : World), w.heap.size ≤ D → S xs → I s xs W → W.heap[D]? = some (.deferred (some [])) → Q .normal { a with defers := { target := .collected D, args := #[] } :: a.defers } W)
    (hstop : ∀ (D : Nat) (c : Code) (pre : List α) (W : World), w.heap.size ≤ D → Ix c pre W → W.heap[D]? = some (.deferred (some [])) → c.wpIn Fence.wide 3 P Q { a with defers := { target := .collected D, args := #[] } :: a.defers } W) :
    (Code.rangeFunc g ps assign body).wpIn Fence.wide 3 P Q a w := by
  refine wpIn_rangeFunc fun fn hfn => ?_
  -- the two blocks of the loop: D for deferred calls, L for its record
  let rec_ : LoopState → Option Code → Obj := fun st pe => .loop { state := st, pending := pe, fn, tmps := a.tmps, params := ps, assign, body, defers := w.heap.size }
  let At : LoopState → Option Code → World → Prop := fun st pe W => w.heap.size + 1 < W.heap.size ∧ W.heap[w.heap.size + 1]? = some (rec_ st pe) ∧ W.heap[w.heap.size]? = some (.deferred (some []))
  have stay : ∀ st pe V V', At st pe V → Stays w.heap.size V V' → At st pe V' := fun st pe V V' h hs =>
    ⟨Nat.lt_of_lt_of_le h.1 hs.size, hs.same _ _ (by omega) h.2.1 rfl, hs.same _ _ (Nat.le_refl _) h.2.2 rfl⟩
  have put : ∀ st pe st' pe' V, At st pe V → At st' pe' (V.putObj (w.heap.size + 1) (rec_ st' pe')) := fun st pe st' pe' V h =>
    ⟨by rw [World.putObj_size]; exact h.1, World.putObj_heap_same h.1, (World.putObj_heap_other (by omega)).trans h.2.2⟩
  have own : ∀ {β : Type} {J : β → World → Prop} (s : β) st pe o V, OwnFrom w.heap.size J → J s V → At st pe V → J s (V.putObj (w.heap.size + 1) o) := fun s st pe o V hJ hs h =>
    hJ.putObj o hs (by omega) h.2.1 rfl
  have a1 : At .ready none ((w.alloc (.deferred (some []))).alloc (rec_ .ready none)) := by
    refine ⟨by simp, ?_, ?_⟩
    · have := World.alloc_heap_new (w.alloc (.deferred (some []))) (rec_ .ready none)
      rwa [World.size_alloc] at this
    · exact (Below.heap_alloc _ _ _ (by simp)).trans (World.alloc_heap_new w _)
  obtain ⟨W1, hW1⟩ : ∃ W1, (w.alloc (.deferred (some []))).alloc (rec_ .ready none) = W1 := ⟨_, rfl⟩
  have h1 : I s0 [] W1 := by rw [← hW1]; exact (hI s0).alloc _ ((hI s0).alloc _ h0)
  rw [hW1] at a1
  refine ⟨w.heap.size + 1, [{ target := .collected w.heap.size, args := #[] }], W1, { target := .fn (.func gf) lb, args := #[.func (.yield (w.heap.size + 1)) #[] #[]] }, W1, gf, #[.func (.yield (w.heap.size + 1)) #[] #[]] ++ lb, W1, by rw [← hW1]; exact run_enterLoop_outer _ _ _ _ _, ?_, fun _ _ => trivial, ?_, fun _ => by decide, ?_⟩
  · simp only [resolve, hg]
    simp [go_sem]
  · simp [invoke, go_sem, eg]
  refine (hit (w.heap.size + 1) (At .ready none) (fun c => At .done (some c)) _ (stay _ _) (fun c => stay _ _) ?_ h1 a1).mono ?_
  · -- one round
    intro s pre x V hi hat hok
    have hy := run_yield (P := P) (args := encs x) hat.2.1 (hps x)
    refine ⟨fn, _, assign, body, hy, roundIn_of_wpIn hfn (hassign _ x V _ ⟨_, run_beginRound hat.2.1 rfl, ?_⟩)⟩
    have hb := put _ _ .busy none V hat
    refine wpIn_mono (hbody s _ pre x _ (own pre _ _ (rec_ .busy none) V (hI s) hi hat) hok) ?_
    rintro e a3 W3 hp
    cases e with
    | normal =>
      have h3 := stay _ _ _ _ hb hp.1
      exact ⟨_, _, run_endRound (P := P) none h3.2.1, .inl ⟨rfl, own _ _ _ _ _ (hI s) hp.2 h3, put _ _ .ready none _ h3⟩⟩
    | ret =>
      have h3 := stay _ _ _ _ hb hp.1
      exact ⟨_, _, run_endRound (P := P) (some .ret) h3.2.1, .inr ⟨rfl, .ret, own _ _ _ _ _ (hIx _) hp.2 h3, put _ _ .done (some .ret) _ h3⟩⟩
    | exit id =>
      have h3 := stay _ _ _ _ hb hp.1
      exact ⟨_, _, run_endRound (P := P) (some (.exit id)) h3.2.1, .inr ⟨rfl, .exit id, own _ _ _ _ _ (hIx _) hp.2 h3, put _ _ .done (some (.exit id)) _ h3⟩⟩
    | goto t =>
      have h3 := stay _ _ _ _ hb hp.1
      exact ⟨_, _, run_endRound (P := P) (some (.goto t)) h3.2.1, .inr ⟨rfl, .goto t, own _ _ _ _ _ (hIx _) hp.2 h3, put _ _ .done (some (.goto t)) _ h3⟩⟩
    | panic ch => exact hp.elim
    | outgrown => exact hp.elim
  · rintro e V ⟨⟨v, rfl⟩, (⟨xs, s, hS, hi, hat⟩ | ⟨pre, c, hi, hat⟩)⟩
    · exact ⟨none, _, run_endLoop (P := P) hat.2.1 (by simp), hdone _ xs s _ (Nat.le_refl _) hS (own _ _ _ _ _ (hI s) hi hat) (put _ _ .exhausted none _ hat).2.2⟩
    · exact ⟨some c, _, run_endLoop (P := P) hat.2.1 (by simp), hstop _ c pre _ (Nat.le_refl _) (own _ _ _ _ _ (hIx c) hi hat) (put _ _ .exhausted (some c) _ hat).2.2⟩

/-- the same where the iterator keeps no state of its own -/
def IterOf {α : Type} (P : Program) (gf : Nat) (lb : Array Value) (encs : α → Array Value) (ok : List α → α → Prop) (S : List α → Prop) (B : Nat) (I : List α → World → Prop) (Ix : Code → List α → World → Prop) : Prop :=
  IterG P gf lb encs ok S B (fun (_ : Unit) => I) Ix ()
theorem range_law {α : Type} {P : Program} {g : Operand} {ps : Array Tmp} {assign body : Code} {Q : Exit → Act → World → Prop} {a : Act} {w : World} {gf : Nat} {lb : Array Value}
    (hg : a.eval g = .func (.func gf) #[] lb) (eg : ∀ args w, (callFunc gf args).run P w = .ok (.enter gf args) w)
    {encs : α → Array Value} (hps : ∀ x, (encs x).size = ps.size) {ok : List α → α → Prop} {S : List α → Prop}
    (I : List α → World → Prop) (Ix : Code → List α → World → Prop) (hI : OwnFrom w.heap.size I) (hIx : ∀ c, OwnFrom w.heap.size (Ix c)) (h0 : I [] w) (a₁ : α → Act)
    (hit : IterOf P gf lb encs ok S w.heap.size I Ix)
    (hassign : ∀ (l : Nat) (x : α) (W : World) (K : Act → World → Prop), K (a₁ x) W →
      assign.wpIn (Fence.wide.inRound l) 1 P (Exit.then K (fun _ _ _ => False)) { tmps := (ps.zip (encs x)).foldl (fun t (p, v) => t.setIfInBounds p v) a.tmps, defers := [] } W)
    (hbody : ∀ (l : Nat) (pre : List α) (x : α) (W : World), I pre W → ok pre x → body.wpIn (Fence.wide.inRound l) 1 P (leftPost w.heap.size I Ix (pre ++ [x]) W) (a₁ x) W)
    (hdone : ∀ (D : Nat) (xs : List α) (W : World), w.heap.size ≤ D → S xs → I xs W → W.heap[D]? = some (.deferred (some [])) → Q .normal { a with defers := { target := .collected D, args := #[] } :: a.defers } W)
    (hstop : ∀ (D : Nat) (c : Code) (pre : List α) (W : World), w.heap.size ≤ D → Ix c pre W → W.heap[D]? = some (.deferred (some [])) → c.wpIn Fence.wide 3 P Q { a with defers := { target := .collected D, args := #[] } :: a.defers } W) :
    (Code.rangeFunc g ps assign body).wpIn Fence.wide 3 P Q a w :=
  range_lawG hg eg hps (fun (_ : Unit) => I) Ix (fun _ => hI) hIx () h0 a₁ hit hassign (fun _ => hbody) (fun D xs _ => hdone D xs) hstop

/-- append onto a row of the call's own, as a step of a region that draws its order, in whatever frame -/
theorem stepIn_append_own {F : Fence} {m : Nat} {P : Program} {w : World} {ops : Array Oper} {o : Oper} {a : Act} {K : Act → World → Prop} {Q : Exit → Act → World → Prop} {E : Prop}
    (hg : o.guard = none) (s x : Operand) (t : TypeId) (hop : o.op = Op.call { callee := Callee.builtin Builtin.append, args := #[s, x], argTypes := #[t, t] })
    (base : Nat) (e : TypeId) (i : TypeInfo) (z : Value) (size bytes : Nat) (h1 : P.underlying t = some (.slice e)) (h2 : P.info? e = some i) (h3 : i.zero = some z) (h4 : i.size = size) (h5 : i.bytes = bytes) (h6 : z.cells.size = size) (h7 : 0 < size)
    (v : Value) (k : Nat) (xs : List Value) (hs : a.eval s = v) (hown : w.ownsRow base e size v k xs) (ad : Addr) (q c : Nat) (news : List Value) (hx : a.eval x = .slice (some ad) q c) (hn : news.length = q * size)
    (hc : ∀ j u, news[j]? = some u → w.cell? (ad.add j) = some u) (h1c : ∀ u ∈ news, u.oneCell' = true) (b1 : k + q ≤ maxLen) (b2 : (k + q) * bytes ≤ 140737488355328) (b3 : base ≤ w.heap.size)
    (hK : ∀ v' w', w'.ownsRow base e size v' (k + q) (xs ++ news) → w.grownBy w' v.ownBlock → K (a.put o.dst v') w') :
    if Region.wanted o (yielded ops a.tmps) = true then Oper.wpIn F m P o a w K Q else E := by
  rw [if_pos (by simp [Region.wanted, hg])]
  obtain ⟨v', w', hrun, r1, r2, _⟩ := run_append_own (P := P) w base t o.type e i z size bytes h1 h2 h3 h4 h5 h6 h7 v k xs hown ad q c news hn hc h1c b1 b2 b3
  refine ⟨by simp [Oper.about, hop, resolve, Target.leads, Sem.run_pure], ?_⟩
  rw [Oper.semAt_plain F _ _ (by rw [hop]; intro c hc'; cases hc')]
  simp [execOp, hop, resolve, invoke, builtin, hs, hx, hrun, Result.andThen]
  exact hK v' w' r1 r2
end Go.Proofs.YtohljainhkdiiaaGreatDoor
/- A range over a function whose assignment makes memory (the variable of the round lies in a box of its own): the law of XRange, the state behind the assignment told apart. Nothing here is about a program. -/
namespace Go.Proofs.YtohljainhkdiiaaGreatDoor
open Go.RowKit

theorem range_lawA {α : Type} {P : Program} {g : Operand} {ps : Array Tmp} {assign body : Code} {Q : Exit → Act → World → Prop} {a : Act} {w : World} {gf : Nat} {lb : Array Value}
    (hg : a.eval g = .func (.func gf) #[] lb) (eg : ∀ args w, (callFunc gf args).run P w = .ok (.enter gf args) w)
    {encs : α → Array Value} (hps : ∀ x, (encs x).size = ps.size) {ok : List α → α → Prop} {S : List α → Prop}
    (I : List α → World → Prop) (Ix : Code → List α → World → Prop) (hI : OwnFrom w.heap.size I) (hIx : ∀ c, OwnFrom w.heap.size (Ix c)) (h0 : I [] w)
    (J : List α → α → Act → World → Prop) (hJ : ∀ pre x a1, OwnFrom w.heap.size (fun (_ : Unit) => J pre x a1))
    (hit : IterOf P gf lb encs ok S w.heap.size I Ix)
    (hassign : ∀ (l : Nat) (pre : List α) (x : α) (W : World) (K : Act → World → Prop), I pre W → ok pre x → (∀ a1 W1, Stays w.heap.size W W1 → J pre x a1 W1 → K a1 W1) →
      assign.wpIn (Fence.wide.inRound l) 1 P (Exit.then K (fun _ _ _ => False)) { tmps := (ps.zip (encs x)).foldl (fun t (p, v) => t.setIfInBounds p v) a.tmps, defers := [] } W)
    (hbody : ∀ (l : Nat) (pre : List α) (x : α) (a1 : Act) (W : World), J pre x a1 W → ok pre x → body.wpIn (Fence.wide.inRound l) 1 P (leftPost w.heap.size I Ix (pre ++ [x]) W) a1 W)
    (hdone : ∀ (D : Nat) (xs : List α) (W : World), w.heap.size ≤ D → S xs → I xs W → W.heap[D]? = some (.deferred (some [])) → Q .normal { a with defers := { target := .collected D, args := #[] } :: a.defers } W)
    (hstop : ∀ (D : Nat) (c : Code) (pre : List α) (W : World), w.heap.size ≤ D → Ix c pre W → W.heap[D]? = some (.deferred (some [])) → c.wpIn Fence.wide 3 P Q { a with defers := { target := .collected D, args := #[] } :: a.defers } W) :
    (Code.rangeFunc g ps assign body).wpIn Fence.wide 3 P Q a w := by
  refine wpIn_rangeFunc fun fn hfn => ?_
  let rec_ : LoopState → Option Code → Obj := fun st pe => .loop { state := st, pending := pe, fn, tmps := a.tmps, params := ps, assign, body, defers := w.heap.size }
  let At : LoopState → Option Code → World → Prop := fun st pe W => w.heap.size + 1 < W.heap.size ∧ W.heap[w.heap.size + 1]? = some (rec_ st pe) ∧ W.heap[w.heap.size]? = some (.deferred (some []))
  have stay : ∀ st pe V V', At st pe V → Stays w.heap.size V V' → At st pe V' := fun st pe V V' h hs =>
    ⟨Nat.lt_of_lt_of_le h.1 hs.size, hs.same _ _ (by omega) h.2.1 rfl, hs.same _ _ (Nat.le_refl _) h.2.2 rfl⟩
  have put : ∀ st pe st' pe' V, At st pe V → At st' pe' (V.putObj (w.heap.size + 1) (rec_ st' pe')) := fun st pe st' pe' V h =>
    ⟨by rw [World.putObj_size]; exact h.1, World.putObj_heap_same h.1, (World.putObj_heap_other (by omega)).trans h.2.2⟩
  have own : ∀ {β : Type} {J : β → World → Prop} (s : β) st pe o V, OwnFrom w.heap.size J → J s V → At st pe V → J s (V.putObj (w.heap.size + 1) o) := fun s st pe o V hJ hs h =>
    hJ.putObj o hs (by omega) h.2.1 rfl
  have a1 : At .ready none ((w.alloc (.deferred (some []))).alloc (rec_ .ready none)) := by
    refine ⟨by simp, ?_, ?_⟩
    · have := World.alloc_heap_new (w.alloc (.deferred (some []))) (rec_ .ready none)
      rwa [World.size_alloc] at this
    · exact (Below.heap_alloc _ _ _ (by simp)).trans (World.alloc_heap_new w _)
  obtain ⟨W1, hW1⟩ : ∃ W1, (w.alloc (.deferred (some []))).alloc (rec_ .ready none) = W1 := ⟨_, rfl⟩
  have h1 : I [] W1 := by rw [← hW1]; exact hI.alloc _ (hI.alloc _ h0)
  rw [hW1] at a1
  refine ⟨w.heap.size + 1, [{ target := .collected w.heap.size, args := #[] }], W1, { target := .fn (.func gf) lb, args := #[.func (.yield (w.heap.size + 1)) #[] #[]] }, W1, gf, #[.func (.yield (w.heap.size + 1)) #[] #[]] ++ lb, W1, by rw [← hW1]; exact run_enterLoop_outer _ _ _ _ _, ?_, fun _ _ => trivial, ?_, fun _ => by decide, ?_⟩
  · simp only [resolve, hg]
    simp [go_sem]
  · simp [invoke, go_sem, eg]
  refine (hit (w.heap.size + 1) (At .ready none) (fun c => At .done (some c)) _ (stay _ _) (fun c => stay _ _) ?_ h1 a1).mono ?_
  · -- one round
    intro _ pre x V hi hat hok
    have hy := run_yield (P := P) (args := encs x) hat.2.1 (hps x)
    refine ⟨fn, _, assign, body, hy, roundIn_of_wpIn hfn (hassign _ pre x V _ hi hok fun a2 V1 hs1 hj => ⟨_, run_beginRound (stay _ _ _ _ hat hs1).2.1 rfl, ?_⟩)⟩
    have hat1 := stay _ _ _ _ hat hs1
    have hb := put _ _ .busy none V1 hat1
    refine wpIn_mono (hbody _ pre x a2 _ (own () _ _ (rec_ .busy none) V1 (hJ pre x a2) hj hat1) hok) ?_
    rintro e a3 W3 hp
    cases e with
    | normal =>
      have h3 := stay _ _ _ _ hb hp.1
      exact ⟨_, _, run_endRound (P := P) none h3.2.1, .inl ⟨rfl, own _ _ _ _ _ hI hp.2 h3, put _ _ .ready none _ h3⟩⟩
    | ret =>
      have h3 := stay _ _ _ _ hb hp.1
      exact ⟨_, _, run_endRound (P := P) (some .ret) h3.2.1, .inr ⟨rfl, .ret, own _ _ _ _ _ (hIx _) hp.2 h3, put _ _ .done (some .ret) _ h3⟩⟩
    | exit id =>
      have h3 := stay _ _ _ _ hb hp.1
      exact ⟨_, _, run_endRound (P := P) (some (.exit id)) h3.2.1, .inr ⟨rfl, .exit id, own _ _ _ _ _ (hIx _) hp.2 h3, put _ _ .done (some (.exit id)) _ h3⟩⟩
    | goto t =>
      have h3 := stay _ _ _ _ hb hp.1
      exact ⟨_, _, run_endRound (P := P) (some (.goto t)) h3.2.1, .inr ⟨rfl, .goto t, own _ _ _ _ _ (hIx _) hp.2 h3, put _ _ .done (some (.goto t)) _ h3⟩⟩
    | panic ch => exact hp.elim
    | outgrown => exact hp.elim
  · rintro e V ⟨⟨v, rfl⟩, (⟨xs, s, hS, hi, hat⟩ | ⟨pre, c, hi, hat⟩)⟩
    · exact ⟨none, _, run_endLoop (P := P) hat.2.1 (by simp), hdone _ xs _ (Nat.le_refl _) hS (own _ _ _ _ _ hI hi hat) (put _ _ .exhausted none _ hat).2.2⟩
    · exact ⟨some c, _, run_endLoop (P := P) hat.2.1 (by simp), hstop _ c pre _ (Nat.le_refl _) (own _ _ _ _ _ (hIx c) hi hat) (put _ _ .exhausted (some c) _ hat).2.2⟩
end Go.Proofs.YtohljainhkdiiaaGreatDoor
/- Plain facts about specifications: validity, parts; nothing here is about a program. -/
namespace Go.Proofs.YtohljainhkdiiaaGreatDoor.Pl
open Go Go.Lib

/-! ### x &^ L -/
theorem wrap_zero (r : BitVec 64) : IntKind.i64.wrap (r.toNat : Int) = 0 ↔ r = 0#64 := by
  have h := r.isLt
  rw [IntKind.wrap_i64]
  constructor
  · intro e
    apply BitVec.eq_of_toNat_eq
    simp only [BitVec.toNat_ofNat]
    omega
  · rintro rfl
    simp
theorem andNot_zero (x : Int) (h1 : -9223372036854775808 ≤ x) (h2 : x ≤ 9223372036854775807) (L : Nat) (hL : L < 256) :
    bits .andNot .i64 x (L : Int) = 0 ↔ (0 ≤ x ∧ ∀ a, a < 64 → x.toNat.testBit a = true → L.testBit a = true) := by
  show IntKind.i64.wrap ((BitVec.ofInt 64 x &&& ~~~(BitVec.ofInt 64 (L : Int))).toNat : Int) = 0 ↔ _
  rw [wrap_zero]
  have hLb : ∀ i, i < 64 → (BitVec.ofInt 64 (L : Int)).getLsbD i = L.testBit i := fun i hi => by
    rw [BitVec.ofInt_natCast, BitVec.getLsbD_ofNat]
    simp [hi]
  by_cases hx : 0 ≤ x
  · obtain ⟨n, rfl⟩ := Int.eq_ofNat_of_zero_le hx
    have hn : ∀ i, i < 64 → (BitVec.ofInt 64 (n : Int)).getLsbD i = n.testBit i := fun i hi => by
      rw [BitVec.ofInt_natCast, BitVec.getLsbD_ofNat]
      simp [hi]
    constructor
    · intro e
      refine ⟨by omega, fun a ha hb => ?_⟩
      have := congrArg (fun r : BitVec 64 => r.getLsbD a) e
      simp only [BitVec.getLsbD_and, BitVec.getLsbD_not, hn a ha, hLb a ha, BitVec.getLsbD_zero] at this
      simp only [Int.toNat_natCast] at hb
      rw [hb] at this
      simp [ha] at this
      exact this
    · rintro ⟨_, h⟩
      apply BitVec.eq_of_getLsbD_eq
      intro i hi
      rw [BitVec.getLsbD_and, BitVec.getLsbD_not, hn i hi, hLb i hi, BitVec.getLsbD_zero]
      have := h i hi
      simp only [Int.toNat_natCast] at this
      cases hb : n.testBit i
      · simp
      · rw [this hb]; simp
  · constructor
    · intro e
      exfalso
      have := congrArg (fun r : BitVec 64 => r.getLsbD 63) e
      simp only [BitVec.getLsbD_and, BitVec.getLsbD_not, hLb 63 (by decide), BitVec.getLsbD_zero] at this
      have hl : L.testBit 63 = false := Nat.testBit_lt_two_pow (Nat.lt_of_lt_of_le hL (by decide))
      have hm : (BitVec.ofInt 64 x).getLsbD 63 = true := by
        have hm2 : (BitVec.ofInt 64 x).toNat = (x % 18446744073709551616).toNat := by simp [BitVec.toNat_ofInt]
        have hb := BitVec.msb_eq_decide (BitVec.ofInt 64 x)
        rw [BitVec.msb_eq_getLsbD_last] at hb
        rw [show (64 - 1 : Nat) = 63 from rfl] at hb
        rw [hb, decide_eq_true_eq, hm2]
        omega
      rw [hl, hm] at this
      simp at this
    · rintro ⟨h, _⟩
      exact absurd h hx

/-- a state: the sets that it accepts, and the next states -/
abbrev Ste := List Int × List Int
structure Spc where
  acts : List ByteArray
  states : List Ste
def teAt (s : List Ste) (i : Nat) : Ste := s.getD i ([], [])
def okNext (ns : Nat) (k : Int) : Bool := decide (-1 ≤ k) && decide (k < ns)
theorem okNext_iff (ns : Nat) (k : Int) : okNext ns k = true ↔ -1 ≤ k ∧ k < ns := by simp [okNext]
def nextB (na ns : Nat) (next : List Int) : Bool := decide (next.length = na) && (List.range next.length).all (fun j => okNext ns (next.getD j 0))
theorem nextB_iff (na ns : Nat) (next : List Int) : nextB na ns next = true ↔ next.length = na ∧ ∀ j, j < next.length → okNext ns (next.getD j 0) = true := by
  simp only [nextB, Bool.and_eq_true, decide_eq_true_eq, List.all_eq_true, List.mem_range]
/-- an action that leads on -/
def leadP (next : List Int) (a : Nat) : Bool := decide (a < next.length) && decide (next.getD a 0 ≠ -1)
/-- the set of the actions that lead on -/
def leadN (next : List Int) : Nat → Nat
  | 0 => 0
  | j + 1 => if next.getD j 0 ≠ -1 then leadN next j ||| 2 ^ j else leadN next j
theorem leadN_bit (next : List Int) (a : Nat) : ∀ j, (leadN next j).testBit a = (decide (a < j) && decide (next.getD a 0 ≠ -1))
  | 0 => by simp [leadN]
  | j + 1 => by
    have ih := leadN_bit next a j
    unfold leadN
    by_cases h : next.getD j 0 ≠ -1
    · rw [if_pos h, Nat.testBit_or, ih, Nat.testBit_two_pow]
      by_cases e : a = j
      · subst e
        rw [decide_eq_true h]
        simp
      · rw [decide_eq_false (fun e2 : j = a => e e2.symm), Bool.or_false]
        congr 1
        rw [decide_eq_decide]
        omega
    · rw [if_neg h, ih]
      by_cases e : a = j
      · subst e
        rw [decide_eq_false h]
        simp
      · congr 1
        rw [decide_eq_decide]
        omega
theorem leadN_lt (next : List Int) : ∀ j, j ≤ 8 → leadN next j < 256
  | 0, _ => by simp [leadN]
  | j + 1, h => by
    have ih := leadN_lt next j (by omega)
    unfold leadN
    split
    · exact Nat.or_lt_two_pow (n := 8) ih (Nat.pow_lt_pow_right (by decide) (by omega))
    · exact ih
def okSet (next : List Int) (x : Int) : Bool := decide (0 ≤ x) && (List.range 64).all (fun a => !(x.toNat.testBit a) || leadP next a)
theorem okSet_iff (next : List Int) (x : Int) : okSet next x = true ↔ 0 ≤ x ∧ ∀ a, a < 64 → x.toNat.testBit a = true → leadP next a = true := by
  simp only [okSet, Bool.and_eq_true, decide_eq_true_eq, List.all_eq_true, List.mem_range, Bool.or_eq_true, Bool.not_eq_true']
  constructor
  · rintro ⟨h0, h⟩
    exact ⟨h0, fun a ha hb => by
      rcases h a ha with h | h
      · rw [hb] at h; cases h
      · exact h⟩
  · rintro ⟨h0, h⟩
    exact ⟨h0, fun a ha => by
      cases hb : x.toNat.testBit a
      · exact .inl rfl
      · exact .inr (h a ha hb)⟩
theorem okSet_lead {next : List Int} (hn : next.length ≤ 8) (x : Int) (h1 : -9223372036854775808 ≤ x) (h2 : x ≤ 9223372036854775807) :
    (bits .andNot .i64 x (leadN next next.length : Int) = 0) ↔ okSet next x = true := by
  rw [andNot_zero x h1 h2 _ (leadN_lt next _ hn), okSet_iff]
  simp only [leadN_bit, leadP]
def risB (acc : List Int) (i : Nat) : Bool := decide (i = 0) || decide (acc.getD (i - 1) 0 < acc.getD i 0)
def accB (acc next : List Int) : Bool := (List.range acc.length).all (fun i => okSet next (acc.getD i 0) && risB acc i)
theorem accB_iff (acc next : List Int) : accB acc next = true ↔ ∀ i, i < acc.length → okSet next (acc.getD i 0) = true ∧ risB acc i = true := by
  simp only [accB, List.all_eq_true, List.mem_range, Bool.and_eq_true]
theorem accB_bad {acc next : List Int} {i : Nat} (hi : i < acc.length) (h : okSet next (acc.getD i 0) = false ∨ risB acc i = false) : accB acc next = false := by
  rw [Bool.eq_false_iff, Ne, accB_iff]
  intro h'
  obtain ⟨a, b⟩ := h' i hi
  rcases h with h | h
  · rw [a] at h; cases h
  · rw [b] at h; cases h
def steB (na ns : Nat) (t : Ste) : Bool := nextB na ns t.2 && accB t.1 t.2
/-- a valid specification -/
def spcB (s : Spc) : Bool := actsB s.acts && decide (1 ≤ s.states.length) && decide (s.states.length ≤ 500) && (List.range s.states.length).all (fun i => steB s.acts.length s.states.length (teAt s.states i))
theorem spcB_iff (s : Spc) : spcB s = true ↔ actsB s.acts = true ∧ 1 ≤ s.states.length ∧ s.states.length ≤ 500 ∧ ∀ i, i < s.states.length → steB s.acts.length s.states.length (teAt s.states i) = true := by
  simp only [spcB, Bool.and_eq_true, decide_eq_true_eq, List.all_eq_true, List.mem_range, and_assoc]
theorem spcB_acts {s : Spc} (h : actsB s.acts = false) : spcB s = false := by simp [spcB, h]
theorem spcB_few {s : Spc} (h : s.states.length < 1) : spcB s = false := by
  rw [Bool.eq_false_iff, Ne, spcB_iff]; omega
theorem spcB_many {s : Spc} (h : 500 < s.states.length) : spcB s = false := by
  rw [Bool.eq_false_iff, Ne, spcB_iff]; omega
theorem spcB_ste {s : Spc} (i : Nat) (hi : i < s.states.length) (h : steB s.acts.length s.states.length (teAt s.states i) = false) : spcB s = false := by
  rw [Bool.eq_false_iff, Ne, spcB_iff]
  rintro ⟨_, _, _, h'⟩
  rw [h' i hi] at h; cases h
/-- the numbers of its states -/
def totalS (s : List Ste) : Nat := (s.map fun t => t.1.length + t.2.length).sum
theorem totalS_snoc (s : List Ste) (t : Ste) : totalS (s ++ [t]) = totalS s + (t.1.length + t.2.length) := by simp [totalS]
theorem totalS_take (s : List Ste) (k : Nat) (h : k < s.length) : totalS (s.take (k + 1)) = totalS (s.take k) + ((teAt s k).1.length + (teAt s k).2.length) := by
  rw [take_next s k ([], []) h, totalS_snoc]; rfl
theorem totalS_take_le (s : List Ste) : ∀ (k : Nat), totalS (s.take k) ≤ totalS s := by
  intro k
  have e : totalS s = totalS (s.take k) + totalS (s.drop k) := by
    unfold totalS
    rw [List.map_take, List.map_drop, ← List.sum_append, List.take_append_drop]
  omega
def fewS (s : Spc) (most : Nat) : Bool := decide (s.acts.length + s.states.length + totalS s.states ≤ most)
theorem fewS_iff (s : Spc) (most : Nat) : fewS s most = true ↔ s.acts.length + s.states.length + totalS s.states ≤ most := by simp [fewS]
end Go.Proofs.YtohljainhkdiiaaGreatDoor.Pl
