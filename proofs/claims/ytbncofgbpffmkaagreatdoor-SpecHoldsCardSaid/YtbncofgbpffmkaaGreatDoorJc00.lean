/- Texts joined: Range, Range2, Plain. -/
import Derived.RangeFuncNested
import Derived.RangeFuncBound
import Derived.RangeFuncCalls
import Derived.RangeFuncLeaves
import Derived.Shelf.RegionOpen
import Derived.WalkKit
import Derived.OwnWalkIn
import Derived.TacticsInMore
import Derived.LoopNIn
import Derived.LoopIn
import Derived.Maps.AppendAt
import Derived.Laws.Strings
import Derived.Lib.SlicesS
import Derived.Lib.Hide
import Derived.Laws.BitsLemmas
import Derived.Lib.Join
/- A range over a function, as its caller sees it: one invariant of the caller's own, one walk of the body, one walk of the iterator. Nothing here is about a program. -/
namespace Go.Proofs.YtbncofgbpffmkaaGreatDoor
open Go.RowKit

theorem addr_add (g j : Nat) : (⟨g, 0, none⟩ : Addr).add j = ⟨g, j, none⟩ := by
  unfold Addr.add
  by_cases h : j = 0
  · rw [if_pos h, h]
  · rw [if_neg h, Nat.zero_add]
theorem cell_first (w : World) (v : Value) (t : TypeId) : (w.alloc (.cells #[v] t)).cell? ⟨w.heap.size, 0, none⟩ = some v := (Boxed.new w t v).cell
theorem ownsRow_lower {w : World} {base base' : Nat} {e : TypeId} {size : Nat} {v : Value} {n : Nat} {xs : List Value} (h : w.ownsRow base e size v n xs) (hb : base' ≤ base) : w.ownsRow base' e size v n xs := by
  obtain ⟨h1, h2 | ⟨g, cap, cur, hv, hg, r⟩⟩ := h
  · exact ⟨h1, .inl h2⟩
  · exact ⟨h1, .inr ⟨g, cap, cur, hv, Nat.le_trans hb hg, r⟩⟩
/-- an owned row lies on where nothing that lay has turned -/
theorem ownsRow_below {w w' : World} {base : Nat} {e : TypeId} {size : Nat} {v : Value} {n : Nat} {xs : List Value} (h : w.ownsRow base e size v n xs) (hb : Below w.heap.size w w') : w'.ownsRow base e size v n xs := by
  obtain ⟨h1, h2 | ⟨g, cap, cur, hv, hg, hh, r⟩⟩ := h
  · exact ⟨h1, .inl h2⟩
  · exact ⟨h1, .inr ⟨g, cap, cur, hv, hg, (hb.block _ (Array.getElem?_eq_some_iff.1 hh).1).trans hh, r⟩⟩

/-- whatever is no cells, and lay at or beyond B, lies as it lay -/
structure Stays (B : Nat) (V W : World) : Prop where
  size : V.heap.size ≤ W.heap.size
  same : ∀ (k : Nat) (o : Obj), B ≤ k → V.heap[k]? = some o → o.isCells = false → W.heap[k]? = some o
theorem Stays.refl (B : Nat) (V : World) : Stays B V V := ⟨Nat.le_refl _, fun _ _ _ h _ => h⟩
theorem Stays.trans {B : Nat} {U V W : World} (h : Stays B U V) (k : Stays B V W) : Stays B U W :=
  ⟨Nat.le_trans h.size k.size, fun i o hi ho hc => k.same i o hi (h.same i o hi ho hc) hc⟩
theorem Stays.below {B : Nat} {V W : World} (h : Below V.heap.size V W) : Stays B V W :=
  ⟨h.size, fun k _ _ hk _ => (h.block k (Array.getElem?_eq_some_iff.1 hk).1).trans hk⟩
theorem Stays.others {B : Nat} {V W : World} (h : KeepsOthers V W) : Stays B V W := ⟨h.size, fun k o _ hk ho => h.same k o hk ho⟩
theorem Stays.setCell (B : Nat) (V : World) (a : Addr) (v : Value) : Stays B V (V.setCell a v) := .others (KeepsOthers.setCell V a v)
theorem Stays.alloc (B : Nat) (V : World) (o : Obj) : Stays B V (V.alloc o) := .others (KeepsOthers.alloc V o)
theorem Stays.drew (B : Nat) (V : World) : Stays B V V.drew := .others (KeepsOthers.drew V)

/-- how a round's body may be left -/
def leftPost {α : Type} (B : Nat) (I : List α → World → Prop) (Ix : Code → List α → World → Prop) (xs : List α) (V : World) : Exit → Act → World → Prop
  | .normal, _, W => Stays B V W ∧ I xs W
  | .ret, _, W => Stays B V W ∧ Ix .ret xs W
  | .exit id, _, W => Stays B V W ∧ Ix (.exit id) xs W
  | .goto t, _, W => Stays B V W ∧ Ix (.goto t) xs W
  | .panic _, _, _ => False
  | .outgrown, _, _ => False

/-- what an iterator owes its caller; σ: what the caller's invariant says of the iterator's own state, which a round leaves as it is -/
def IterG {σ α : Type} (P : Program) (gf : Nat) (lb : Array Value) (encs : α → Array Value) (ok : List α → α → Prop) (S : List α → Prop) (B : Nat) (I : σ → List α → World → Prop) (Ix : Code → List α → World → Prop) (s0 : σ) : Prop :=
  ∀ (l : Nat) (Bk : World → Prop) (Bx : Code → World → Prop) (W : World),
    (∀ V V', Bk V → Stays B V V' → Bk V') → (∀ c V V', Bx c V → Stays B V V' → Bx c V') →
    (∀ s pre x V, I s pre V → Bk V → ok pre x → YieldAt Fence.wide 1 P l (encs x) V fun e V' =>
      (e = .returned (.bool true) ∧ I s (pre ++ [x]) V' ∧ Bk V') ∨ (e = .returned (.bool false) ∧ ∃ c, Ix c (pre ++ [x]) V' ∧ Bx c V')) →
    I s0 [] W → Bk W →
    CallsIn Fence.wide 2 P gf (#[.func (.yield l) #[] #[]] ++ lb) W fun e V' => (∃ v, e = .returned v) ∧ ((∃ xs s, S xs ∧ I s xs V' ∧ Bk V') ∨ (∃ pre c, Ix c pre V' ∧ Bx c V'))

theorem range_lawG {σ α : Type} {P : Program} {g : Operand} {ps : Array Tmp} {assign body : Code} {Q : Exit → Act → World → Prop} {a : Act} {w : World} {gf : Nat} {lb : Array Value}
    (hg : a.eval g = .func (.func gf) #[] lb) (eg : ∀ args w, (callFunc gf args).run P w = .ok (.enter gf args) w)
    {encs : α → Array Value} (hps : ∀ x, (encs x).size = ps.size) {ok : List α → α → Prop} {S : List α → Prop}
    (I : σ → List α → World → Prop) (Ix : Code → List α → World → Prop) (hI : ∀ s, OwnFrom w.heap.size (I s)) (hIx : ∀ c, OwnFrom w.heap.size (Ix c)) (s0 : σ) (h0 : I s0 [] w) (a₁ : α → Act)
    (hit : IterG P gf lb encs ok S w.heap.size I Ix s0)
    (hassign : ∀ (l : Nat) (x : α) (W : World) (K : Act → World → Prop), K (a₁ x) W →
      assign.wpIn (Fence.wide.inRound l) 1 P (Exit.then K (fun _ _ _ => False)) { tmps := (ps.zip (encs x)).foldl (fun t (p, v) => t.setIfInBounds p v) a.tmps, defers := [] } W)
    (hbody : ∀ (s : σ) (l : Nat) (pre : List α) (x : α) (W : World), I s pre W → ok pre x → body.wpIn (Fence.wide.inRound l) 1 P (leftPost w.heap.size (I s) Ix (pre ++ [x]) W) (a₁ x) W)
    (hdone : ∀ (D : Nat) (xs : List α) (s : σ) (W : World), w.heap.size ≤ D → S xs → I s xs W → W.heap[D]? = some (.deferred (some [])) → Q .normal { a with defers := { target := .collected D, args := #[] } :: a.defers } W)
    (hstop : ∀ (D : Nat) (c : Code) (pre : List α) (W : World), w.heap.size ≤ D → Ix c pre W → W.heap[D]? = some (.deferred (some [])) → c.wpIn Fence.wide 3 P Q { a with defers := { target := .collected D, args := #[] } :: a.defers } W) :
    (Code.rangeFunc g ps assign body).wpIn Fence.wide 3 P Q a w := by
  refine wpIn_rangeFunc fun fn hfn => ?_
  -- the two blocks of the loop: D for deferred calls, L for its record
  let rec_ : LoopState → Option Code → Obj := fun st pe => .loop { state := st, pending := pe, fn, tmps := a.tmps, params := ps, assign, body, defers := w.heap.size }
  let At : LoopState → Option Code → World → Prop := fun st pe W => w.heap.size + 1 < W.heap.size ∧ W.heap[w.heap.size + 1]? = some (rec_ st pe) ∧ W.heap[w.heap.size]? = some (.deferred (some []))
  have stay : ∀ st pe V V', At st pe V → Stays w.heap.size V V' → At st pe V' := fun st pe V V' h hs =>
    ⟨Nat.lt_of_lt_of_le h.1 hs.size, hs.same _ _ (by omega) h.2.1 rfl, hs.same _ _ (Nat.le_refl _) h.2.2 rfl⟩
  have put : ∀ st pe st' pe' V, At st pe V → At st' pe' (V.putObj (w.heap.size + 1) (rec_ st' pe')) := fun st pe st' pe' V h =>
    ⟨by rw [World.putObj_size]; exact h.1, World.putObj_heap_same h.1, (World.putObj_heap_other (by omega)).trans h.2.2⟩
  have own : ∀ {β : Type} {J : β → World → Prop} (s : β) st pe o V, OwnFrom w.heap.size J → J s V → At st pe V → J s (V.putObj (w.heap.size + 1) o) := fun s st pe o V hJ hs h =>
    hJ.putObj o hs (by omega) h.2.1 rfl
  have a1 : At .ready none ((w.alloc (.deferred (some []))).alloc (rec_ .ready none)) := by
    refine ⟨by simp, ?_, ?_⟩
    · have := World.alloc_heap_new (w.alloc (.deferred (some []))) (rec_ .ready none)
      rwa [World.size_alloc] at this
    · exact (Below.heap_alloc _ _ _ (by simp)).trans (World.alloc_heap_new w _)
  obtain ⟨W1, hW1⟩ : ∃ W1, (w.alloc (.deferred (some []))).alloc (rec_ .ready none) = W1 := ⟨_, rfl⟩
  have h1 : I s0 [] W1 := by rw [← hW1]; exact (hI s0).alloc _ ((hI s0).alloc _ h0)
  rw [hW1] at a1
  refine ⟨w.heap.size + 1, [{ target := .collected w.heap.size, args := #[] }], W1, { target := .fn (.func gf) lb, args := #[.func (.yield (w.heap.size + 1)) #[] #[]] }, W1, gf, #[.func (.yield (w.heap.size + 1)) #[] #[]] ++ lb, W1, by rw [← hW1]; exact run_enterLoop_outer _ _ _ _ _, ?_, fun _ _ => trivial, ?_, fun _ => by decide, ?_⟩
  · simp only [resolve, hg]
    simp [go_sem]
  · simp [invoke, go_sem, eg]
  refine (hit (w.heap.size + 1) (At .ready none) (fun c => At .done (some c)) _ (stay _ _) (fun c => stay _ _) ?_ h1 a1).mono ?_
  · -- one round
    intro s pre x V hi hat hok
    have hy := run_yield (P := P) (args := encs x) hat.2.1 (hps x)
    refine ⟨fn, _, assign, body, hy, roundIn_of_wpIn hfn (hassign _ x V _ ⟨_, run_beginRound hat.2.1 rfl, ?_⟩)⟩
    have hb := put _ _ .busy none V hat
    refine wpIn_mono (hbody s _ pre x _ (own pre _ _ (rec_ .busy none) V (hI s) hi hat) hok) ?_
    rintro e a3 W3 hp
    cases e with
    | normal =>
      have h3 := stay _ _ _ _ hb hp.1
      exact ⟨_, _, run_endRound (P := P) none h3.2.1, .inl ⟨rfl, own _ _ _ _ _ (hI s) hp.2 h3, put _ _ .ready none _ h3⟩⟩
    | ret =>
      have h3 := stay _ _ _ _ hb hp.1
      exact ⟨_, _, run_endRound (P := P) (some .ret) h3.2.1, .inr ⟨rfl, .ret, own _ _ _ _ _ (hIx _) hp.2 h3, put _ _ .done (some .ret) _ h3⟩⟩
    | exit id =>
      have h3 := stay _ _ _ _ hb hp.1
      exact ⟨_, _, run_endRound (P := P) (some (.exit id)) h3.2.1, .inr ⟨rfl, .exit id, own _ _ _ _ _ (hIx _) hp.2 h3, put _ _ .done (some (.exit id)) _ h3⟩⟩
    | goto t =>
      have h3 := stay _ _ _ _ hb hp.1
      exact ⟨_, _, run_endRound (P := P) (some (.goto t)) h3.2.1, .inr ⟨rfl, .goto t, own _ _ _ _ _ (hIx _) hp.2 h3, put _ _ .done (some (.goto t)) _ h3⟩⟩
    | panic ch => exact hp.elim
    | outgrown => exact hp.elim
  · rintro e V ⟨⟨v, rfl⟩, (⟨xs, s, hS, hi, hat⟩ | ⟨pre, c, hi, hat⟩)⟩
    · exact ⟨none, _, run_endLoop (P := P) hat.2.1 (by simp), hdone _ xs s _ (Nat.le_refl _) hS (own _ _ _ _ _ (hI s) hi hat) (put _ _ .exhausted none _ hat).2.2⟩
    · exact ⟨some c, _, run_endLoop (P := P) hat.2.1 (by simp), hstop _ c pre _ (Nat.le_refl _) (own _ _ _ _ _ (hIx c) hi hat) (put _ _ .exhausted (some c) _ hat).2.2⟩

/-- the same where the iterator keeps no state of its own -/
def IterOf {α : Type} (P : Program) (gf : Nat) (lb : Array Value) (encs : α → Array Value) (ok : List α → α → Prop) (S : List α → Prop) (B : Nat) (I : List α → World → Prop) (Ix : Code → List α → World → Prop) : Prop :=
  IterG P gf lb encs ok S B (fun (_ : Unit) => I) Ix ()
theorem range_law {α : Type} {P : Program} {g : Operand} {ps : Array Tmp} {assign body : Code} {Q : Exit → Act → World → Prop} {a : Act} {w : World} {gf : Nat} {lb : Array Value}
    (hg : a.eval g = .func (.func gf) #[] lb) (eg : ∀ args w, (callFunc gf args).run P w = .ok (.enter gf args) w)
    {encs : α → Array Value} (hps : ∀ x, (encs x).size = ps.size) {ok : List α → α → Prop} {S : List α → Prop}
    (I : List α → World → Prop) (Ix : Code → List α → World → Prop) (hI : OwnFrom w.heap.size I) (hIx : ∀ c, OwnFrom w.heap.size (Ix c)) (h0 : I [] w) (a₁ : α → Act)
    (hit : IterOf P gf lb encs ok S w.heap.size I Ix)
    (hassign : ∀ (l : Nat) (x : α) (W : World) (K : Act → World → Prop), K (a₁ x) W →
      assign.wpIn (Fence.wide.inRound l) 1 P (Exit.then K (fun _ _ _ => False)) { tmps := (ps.zip (encs x)).foldl (fun t (p, v) => t.setIfInBounds p v) a.tmps, defers := [] } W)
    (hbody : ∀ (l : Nat) (pre : List α) (x : α) (W : World), I pre W → ok pre x → body.wpIn (Fence.wide.inRound l) 1 P (leftPost w.heap.size I Ix (pre ++ [x]) W) (a₁ x) W)
    (hdone : ∀ (D : Nat) (xs : List α) (W : World), w.heap.size ≤ D → S xs → I xs W → W.heap[D]? = some (.deferred (some [])) → Q .normal { a with defers := { target := .collected D, args := #[] } :: a.defers } W)
    (hstop : ∀ (D : Nat) (c : Code) (pre : List α) (W : World), w.heap.size ≤ D → Ix c pre W → W.heap[D]? = some (.deferred (some [])) → c.wpIn Fence.wide 3 P Q { a with defers := { target := .collected D, args := #[] } :: a.defers } W) :
    (Code.rangeFunc g ps assign body).wpIn Fence.wide 3 P Q a w :=
  range_lawG hg eg hps (fun (_ : Unit) => I) Ix (fun _ => hI) hIx () h0 a₁ hit hassign (fun _ => hbody) (fun D xs _ => hdone D xs) hstop

/-- append onto a row of the call's own, as a step of a region that draws its order, in whatever frame -/
theorem stepIn_append_own {F : Fence} {m : Nat} {P : Program} {w : World} {ops : Array Oper} {o : Oper} {a : Act} {K : Act → World → Prop} {Q : Exit → Act → World → Prop} {E : Prop}
    (hg : o.guard = none) (s x : Operand) (t : TypeId) (hop : o.op = Op.call { callee := Callee.builtin Builtin.append, args := #[s, x], argTypes := #[t, t] })
    (base : Nat) (e : TypeId) (i : TypeInfo) (z : Value) (size bytes : Nat) (h1 : P.underlying t = some (.slice e)) (h2 : P.info? e = some i) (h3 : i.zero = some z) (h4 : i.size = size) (h5 : i.bytes = bytes) (h6 : z.cells.size = size) (h7 : 0 < size)
    (v : Value) (k : Nat) (xs : List Value) (hs : a.eval s = v) (hown : w.ownsRow base e size v k xs) (ad : Addr) (q c : Nat) (news : List Value) (hx : a.eval x = .slice (some ad) q c) (hn : news.length = q * size)
    (hc : ∀ j u, news[j]? = some u → w.cell? (ad.add j) = some u) (h1c : ∀ u ∈ news, u.oneCell' = true) (b1 : k + q ≤ maxLen) (b2 : (k + q) * bytes ≤ 140737488355328) (b3 : base ≤ w.heap.size)
    (hK : ∀ v' w', w'.ownsRow base e size v' (k + q) (xs ++ news) → w.grownBy w' v.ownBlock → K (a.put o.dst v') w') :
    if Region.wanted o (yielded ops a.tmps) = true then Oper.wpIn F m P o a w K Q else E := by
  rw [if_pos (by simp [Region.wanted, hg])]
  obtain ⟨v', w', hrun, r1, r2, _⟩ := run_append_own (P := P) w base t o.type e i z size bytes h1 h2 h3 h4 h5 h6 h7 v k xs hown ad q c news hn hc h1c b1 b2 b3
  refine ⟨by simp [Oper.about, hop, resolve, Target.leads, Sem.run_pure], ?_⟩
  rw [Oper.semAt_plain F _ _ (by rw [hop]; intro c hc'; cases hc')]
  simp [execOp, hop, resolve, invoke, builtin, hs, hx, hrun, Result.andThen]
  exact hK v' w' r1 r2
end Go.Proofs.YtbncofgbpffmkaaGreatDoor
/- A range over a function whose assignment makes memory (the variable of the round lies in a box of its own): the law of XRange, the state behind the assignment told apart. Nothing here is about a program. -/
namespace Go.Proofs.YtbncofgbpffmkaaGreatDoor
open Go.RowKit

theorem range_lawA {α : Type} {P : Program} {g : Operand} {ps : Array Tmp} {assign body : Code} {Q : Exit → Act → World → Prop} {a : Act} {w : World} {gf : Nat} {lb : Array Value}
    (hg : a.eval g = .func (.func gf) #[] lb) (eg : ∀ args w, (callFunc gf args).run P w = .ok (.enter gf args) w)
    {encs : α → Array Value} (hps : ∀ x, (encs x).size = ps.size) {ok : List α → α → Prop} {S : List α → Prop}
    (I : List α → World → Prop) (Ix : Code → List α → World → Prop) (hI : OwnFrom w.heap.size I) (hIx : ∀ c, OwnFrom w.heap.size (Ix c)) (h0 : I [] w)
    (J : List α → α → Act → World → Prop) (hJ : ∀ pre x a1, OwnFrom w.heap.size (fun (_ : Unit) => J pre x a1))
    (hit : IterOf P gf lb encs ok S w.heap.size I Ix)
    (hassign : ∀ (l : Nat) (pre : List α) (x : α) (W : World) (K : Act → World → Prop), I pre W → ok pre x → (∀ a1 W1, Stays w.heap.size W W1 → J pre x a1 W1 → K a1 W1) →
      assign.wpIn (Fence.wide.inRound l) 1 P (Exit.then K (fun _ _ _ => False)) { tmps := (ps.zip (encs x)).foldl (fun t (p, v) => t.setIfInBounds p v) a.tmps, defers := [] } W)
    (hbody : ∀ (l : Nat) (pre : List α) (x : α) (a1 : Act) (W : World), J pre x a1 W → ok pre x → body.wpIn (Fence.wide.inRound l) 1 P (leftPost w.heap.size I Ix (pre ++ [x]) W) a1 W)
    (hdone : ∀ (D : Nat) (xs : List α) (W : World), w.heap.size ≤ D → S xs → I xs W → W.heap[D]? = some (.deferred (some [])) → Q .normal { a with defers := { target := .collected D, args := #[] } :: a.defers } W)
    (hstop : ∀ (D : Nat) (c : Code) (pre : List α) (W : World), w.heap.size ≤ D → Ix c pre W → W.heap[D]? = some (.deferred (some [])) → c.wpIn Fence.wide 3 P Q { a with defers := { target := .collected D, args := #[] } :: a.defers } W) :
    (Code.rangeFunc g ps assign body).wpIn Fence.wide 3 P Q a w := by
  refine wpIn_rangeFunc fun fn hfn => ?_
  let rec_ : LoopState → Option Code → Obj := fun st pe => .loop { state := st, pending := pe, fn, tmps := a.tmps, params := ps, assign, body, defers := w.heap.size }
  let At : LoopState → Option Code → World → Prop := fun st pe W => w.heap.size + 1 < W.heap.size ∧ W.heap[w.heap.size + 1]? = some (rec_ st pe) ∧ W.heap[w.heap.size]? = some (.deferred (some []))
  have stay : ∀ st pe V V', At st pe V → Stays w.heap.size V V' → At st pe V' := fun st pe V V' h hs =>
    ⟨Nat.lt_of_lt_of_le h.1 hs.size, hs.same _ _ (by omega) h.2.1 rfl, hs.same _ _ (Nat.le_refl _) h.2.2 rfl⟩
  have put : ∀ st pe st' pe' V, At st pe V → At st' pe' (V.putObj (w.heap.size + 1) (rec_ st' pe')) := fun st pe st' pe' V h =>
    ⟨by rw [World.putObj_size]; exact h.1, World.putObj_heap_same h.1, (World.putObj_heap_other (by omega)).trans h.2.2⟩
  have own : ∀ {β : Type} {J : β → World → Prop} (s : β) st pe o V, OwnFrom w.heap.size J → J s V → At st pe V → J s (V.putObj (w.heap.size + 1) o) := fun s st pe o V hJ hs h =>
    hJ.putObj o hs (by omega) h.2.1 rfl
  have a1 : At .ready none ((w.alloc (.deferred (some []))).alloc (rec_ .ready none)) := by
    refine ⟨by simp, ?_, ?_⟩
    · have := World.alloc_heap_new (w.alloc (.deferred (some []))) (rec_ .ready none)
      rwa [World.size_alloc] at this
    · exact (Below.heap_alloc _ _ _ (by simp)).trans (World.alloc_heap_new w _)
  obtain ⟨W1, hW1⟩ : ∃ W1, (w.alloc (.deferred (some []))).alloc (rec_ .ready none) = W1 := ⟨_, rfl⟩
  have h1 : I [] W1 := by rw [← hW1]; exact hI.alloc _ (hI.alloc _ h0)
  rw [hW1] at a1
  refine ⟨w.heap.size + 1, [{ target := .collected w.heap.size, args := #[] }], W1, { target := .fn (.func gf) lb, args := #[.func (.yield (w.heap.size + 1)) #[] #[]] }, W1, gf, #[.func (.yield (w.heap.size + 1)) #[] #[]] ++ lb, W1, by rw [← hW1]; exact run_enterLoop_outer _ _ _ _ _, ?_, fun _ _ => trivial, ?_, fun _ => by decide, ?_⟩
  · simp only [resolve, hg]
    simp [go_sem]
  · simp [invoke, go_sem, eg]
  refine (hit (w.heap.size + 1) (At .ready none) (fun c => At .done (some c)) _ (stay _ _) (fun c => stay _ _) ?_ h1 a1).mono ?_
  · -- one round
    intro _ pre x V hi hat hok
    have hy := run_yield (P := P) (args := encs x) hat.2.1 (hps x)
    refine ⟨fn, _, assign, body, hy, roundIn_of_wpIn hfn (hassign _ pre x V _ hi hok fun a2 V1 hs1 hj => ⟨_, run_beginRound (stay _ _ _ _ hat hs1).2.1 rfl, ?_⟩)⟩
    have hat1 := stay _ _ _ _ hat hs1
    have hb := put _ _ .busy none V1 hat1
    refine wpIn_mono (hbody _ pre x a2 _ (own () _ _ (rec_ .busy none) V1 (hJ pre x a2) hj hat1) hok) ?_
    rintro e a3 W3 hp
    cases e with
    | normal =>
      have h3 := stay _ _ _ _ hb hp.1
      exact ⟨_, _, run_endRound (P := P) none h3.2.1, .inl ⟨rfl, own _ _ _ _ _ hI hp.2 h3, put _ _ .ready none _ h3⟩⟩
    | ret =>
      have h3 := stay _ _ _ _ hb hp.1
      exact ⟨_, _, run_endRound (P := P) (some .ret) h3.2.1, .inr ⟨rfl, .ret, own _ _ _ _ _ (hIx _) hp.2 h3, put _ _ .done (some .ret) _ h3⟩⟩
    | exit id =>
      have h3 := stay _ _ _ _ hb hp.1
      exact ⟨_, _, run_endRound (P := P) (some (.exit id)) h3.2.1, .inr ⟨rfl, .exit id, own _ _ _ _ _ (hIx _) hp.2 h3, put _ _ .done (some (.exit id)) _ h3⟩⟩
    | goto t =>
      have h3 := stay _ _ _ _ hb hp.1
      exact ⟨_, _, run_endRound (P := P) (some (.goto t)) h3.2.1, .inr ⟨rfl, .goto t, own _ _ _ _ _ (hIx _) hp.2 h3, put _ _ .done (some (.goto t)) _ h3⟩⟩
    | panic ch => exact hp.elim
    | outgrown => exact hp.elim
  · rintro e V ⟨⟨v, rfl⟩, (⟨xs, s, hS, hi, hat⟩ | ⟨pre, c, hi, hat⟩)⟩
    · exact ⟨none, _, run_endLoop (P := P) hat.2.1 (by simp), hdone _ xs _ (Nat.le_refl _) hS (own _ _ _ _ _ hI hi hat) (put _ _ .exhausted none _ hat).2.2⟩
    · exact ⟨some c, _, run_endLoop (P := P) hat.2.1 (by simp), hstop _ c pre _ (Nat.le_refl _) (own _ _ _ _ _ (hIx c) hi hat) (put _ _ .exhausted (some c) _ hat).2.2⟩
end Go.Proofs.YtbncofgbpffmkaaGreatDoor
/- Plain facts about names, lists of actions and sets of them; nothing here is about a program. -/
namespace Go.Proofs.YtbncofgbpffmkaaGreatDoor.Pl
open Go Go.Lib

/-! ### bytes of names -/
def letB (c : Int) : Bool := (decide (97 ≤ c) && decide (c ≤ 122)) || (decide (65 ≤ c) && decide (c ≤ 90))
def nmB (c : Int) : Bool := letB c || (decide (48 ≤ c) && decide (c ≤ 57)) || decide (c = 45) || decide (c = 95)
theorem letB_iff (c : Int) : letB c = true ↔ (97 ≤ c ∧ c ≤ 122) ∨ (65 ≤ c ∧ c ≤ 90) := by simp [letB]
theorem nmB_iff (c : Int) : nmB c = true ↔ letB c = true ∨ (48 ≤ c ∧ c ≤ 57) ∨ c = 45 ∨ c = 95 := by simp [nmB, or_assoc]

/-- the byte at a place, 0 behind the end -/
def byteAt (s : ByteArray) (k : Nat) : Int := ((s.data.toList.getD k 0).toNat : Int)
theorem byteAt_lt (s : ByteArray) (k : Nat) (h : k < s.size) : byteAt s k = (s[k].toNat : Int) := by
  unfold byteAt
  have e : s.data.toList.getD k 0 = s[k] := by
    rw [List.getD_eq_getElem?_getD, Array.getElem?_toList, Array.getElem?_eq_getElem (by exact h)]; rfl
  rw [e]
theorem byteAt_range (s : ByteArray) (k : Nat) : 0 ≤ byteAt s k ∧ byteAt s k ≤ 255 := by
  unfold byteAt
  have := (s.data.toList.getD k 0).toNat_lt
  omega

/-- a name: 1 to 20 bytes, a letter first, bytes of names -/
def nameB (s : ByteArray) : Bool :=
  decide (1 ≤ s.size) && decide (s.size ≤ 20) && letB (byteAt s 0) && (List.range s.size).all (fun k => nmB (byteAt s k))
theorem nameB_iff (s : ByteArray) : nameB s = true ↔ 1 ≤ s.size ∧ s.size ≤ 20 ∧ letB (byteAt s 0) = true ∧ ∀ k, k < s.size → nmB (byteAt s k) = true := by
  simp [nameB, and_assoc]
theorem nameB_short (s : ByteArray) (h : s.size < 1) : nameB s = false := by
  rw [Bool.eq_false_iff, Ne, nameB_iff]; omega
theorem nameB_long (s : ByteArray) (h : 20 < s.size) : nameB s = false := by
  rw [Bool.eq_false_iff, Ne, nameB_iff]; omega
theorem nameB_head (s : ByteArray) (h : letB (byteAt s 0) = false) : nameB s = false := by
  rw [Bool.eq_false_iff, Ne, nameB_iff]; rintro ⟨_, _, h', _⟩; rw [h] at h'; cases h'
theorem nameB_bad (s : ByteArray) (k : Nat) (hk : k < s.size) (h : nmB (byteAt s k) = false) : nameB s = false := by
  rw [Bool.eq_false_iff, Ne, nameB_iff]; rintro ⟨_, _, _, h'⟩; rw [h' k hk] at h; cases h
theorem nameB_good (s : ByteArray) (h1 : 1 ≤ s.size) (h2 : s.size ≤ 20) (h3 : letB (byteAt s 0) = true) (h4 : ∀ k, k < s.size → nmB (byteAt s k) = true) : nameB s = true :=
  (nameB_iff s).2 ⟨h1, h2, h3, h4⟩

/-! ### bits of ints -/
theorem wraps_i64 (n : Int) (h0 : 0 ≤ n) (h1 : n < 2 ^ 63) : IntKind.i64.wrap n = n := by rw [IntKind.wrap_i64]; omega
theorem i64_and_nat (a b : Nat) (ha : a < 2 ^ 63) (hb : b < 2 ^ 63) : bits .and .i64 (a : Int) (b : Int) = ((a &&& b : Nat) : Int) :=
  (bits_nat .i64 63 (by decide) wraps_i64 a b ha hb).1
theorem i64_or_nat (a b : Nat) (ha : a < 2 ^ 63) (hb : b < 2 ^ 63) : bits .or .i64 (a : Int) (b : Int) = ((a ||| b : Nat) : Int) :=
  (bits_nat .i64 63 (by decide) wraps_i64 a b ha hb).2
theorem has_bit (X k : Nat) (hX : X < 2 ^ 63) : (bits .and .i64 ((X : Int) / 2 ^ k) 1 == 1) = X.testBit k := by
  have e : ((X : Int) / 2 ^ k) = ((X / 2 ^ k : Nat) : Int) := by simp
  have h1 : X / 2 ^ k ≤ X := Nat.div_le_self _ _
  rw [e, show (1 : Int) = ((1 : Nat) : Int) from rfl, i64_and_nat _ _ (by omega) (by decide), Nat.testBit_eq_decide_div_mod_eq, Nat.and_one_is_mod, Bool.eq_iff_iff]
  rw [beq_iff_eq, decide_eq_true_eq]
  omega
theorem pow_le (n : Nat) (hn : n ≤ 62) : (1 : Int) ≤ 2 ^ n ∧ (2 : Int) ^ n ≤ 4611686018427387904 := by
  have h1 : 2 ^ n ≤ 2 ^ 62 := Nat.pow_le_pow_right (by decide) hn
  have h2 : 1 ≤ 2 ^ n := Nat.one_le_two_pow
  have h3 : ((2 ^ n : Nat) : Int) = (2 : Int) ^ n := by norm_cast
  have h4 : (2 : Nat) ^ 62 = 4611686018427387904 := by decide
  omega
/-- a number is a set of so many actions -/
def setB (n : Nat) (x : Int) : Bool := decide (0 ≤ x) && decide (x < 2 ^ n)
theorem setB_iff (n : Nat) (x : Int) : setB n x = true ↔ 0 ≤ x ∧ x < 2 ^ n := by simp [setB]

/-! ### lists of actions -/
def at_ (ss : List ByteArray) (k : Nat) : ByteArray := ss.getD k ByteArray.empty
/-- a list of actions: at most 8 different names -/
def actsB (ss : List ByteArray) : Bool := decide (ss.length ≤ 8) && (List.range ss.length).all (fun k => nameB (at_ ss k) && !containsS (ss.take k) (at_ ss k))
theorem actsB_iff (ss : List ByteArray) : actsB ss = true ↔ ss.length ≤ 8 ∧ ∀ k, k < ss.length → nameB (at_ ss k) = true ∧ containsS (ss.take k) (at_ ss k) = false := by
  simp [actsB]
theorem actsB_long (ss : List ByteArray) (h : 8 < ss.length) : actsB ss = false := by
  rw [Bool.eq_false_iff, Ne, actsB_iff]; omega
theorem actsB_name (ss : List ByteArray) (k : Nat) (hk : k < ss.length) (h : nameB (at_ ss k) = false) : actsB ss = false := by
  rw [Bool.eq_false_iff, Ne, actsB_iff]; rintro ⟨_, h'⟩; rw [(h' k hk).1] at h; cases h
theorem actsB_twice (ss : List ByteArray) (k : Nat) (hk : k < ss.length) (h : containsS (ss.take k) (at_ ss k) = true) : actsB ss = false := by
  rw [Bool.eq_false_iff, Ne, actsB_iff]; rintro ⟨_, h'⟩; rw [(h' k hk).2] at h; cases h
theorem idx_first (ss : List ByteArray) (k : Nat) (hk : k < ss.length) : idxOfS ss (at_ ss k) = k ↔ containsS (ss.take k) (at_ ss k) = false := by
  have mem : ∀ x, x ∈ ss.take k ↔ ∃ j, j < k ∧ at_ ss j = x := fun x => by
    rw [List.mem_iff_getElem?]
    constructor
    · rintro ⟨j, hj⟩
      have hjk : j < k := by
        rcases Nat.lt_or_ge j k with h | h
        · exact h
        · rw [List.getElem?_eq_none (by rw [List.length_take]; omega)] at hj; cases hj
      rw [List.getElem?_take_of_lt hjk] at hj
      exact ⟨j, hjk, by unfold at_; rw [List.getD_eq_getElem?_getD, hj]; rfl⟩
    · rintro ⟨j, hjk, h⟩
      refine ⟨j, ?_⟩
      rw [List.getElem?_take_of_lt hjk, ← h]
      unfold at_
      rw [List.getD_eq_getElem?_getD, List.getElem?_eq_getElem (by omega)]; rfl
  constructor
  · intro h
    rw [Bool.eq_false_iff, Ne, containsS_iff, mem]
    rintro ⟨j, hj, he⟩
    -- the first such place
    have : ∃ m, m < k ∧ at_ ss m = at_ ss k ∧ ∀ i, i < m → at_ ss i ≠ at_ ss k := by
      clear h
      induction j using Nat.strongRecOn with
      | ind j ih =>
        by_cases hex : ∃ i, i < j ∧ at_ ss i = at_ ss k
        · obtain ⟨i, hi, hie⟩ := hex
          exact ih i hi (by omega) hie
        · exact ⟨j, hj, he, fun i hi e => hex ⟨i, hi, e⟩⟩
    obtain ⟨m, hm, hme, hmin⟩ := this
    have h2 := idxOfS_hit ss ss.length m (at_ ss k) (by omega) (Nat.le_refl _) hme hmin
    rw [List.take_length, h] at h2
    omega
  · intro h
    rw [Bool.eq_false_iff, Ne, containsS_iff, mem] at h
    have h2 := idxOfS_hit ss ss.length k (at_ ss k) hk (Nat.le_refl _) rfl (fun j hj e => h ⟨j, hj, e⟩)
    rwa [List.take_length] at h2
theorem actsB_good (ss : List ByteArray) (h : ss.length ≤ 8) (h' : ∀ k, k < ss.length → nameB (at_ ss k) = true ∧ containsS (ss.take k) (at_ ss k) = false) : actsB ss = true :=
  (actsB_iff ss).2 ⟨h, h'⟩

/-! ### strings of sets -/
/-- the members of a set of at most 8 actions, in increasing order -/
def memL (x : Nat) : List Nat := (List.range 8).filter fun k => x.testBit k
/-- the bytes of the string of a set -/
def setS (ss : List ByteArray) (y : Nat) : List UInt8 := [123] ++ join ((memL y).map fun k => (at_ ss k).data.toList) [44] ++ [125]
theorem lens_bound (m : Nat) : ∀ (xs : List (List UInt8)), (∀ x ∈ xs, x.length ≤ m) → lens xs ≤ m * xs.length
  | [], _ => by simp [lens]
  | x :: r, h => by
    have h1 := h x (by simp)
    have h2 := lens_bound m r (fun y hy => h y (by simp [hy]))
    have e : lens (x :: r) = x.length + lens r := by simp [lens]
    rw [e, List.length_cons, Nat.mul_add, Nat.mul_one]
    omega
theorem join_bound (m : Nat) (xs : List (List UInt8)) (h : ∀ x ∈ xs, x.length ≤ m) : (join xs [44]).length ≤ (m + 1) * xs.length := by
  cases xs with
  | nil => simp [join_nil]
  | cons x r =>
    have h1 := lens_bound m (x :: r) h
    have h2 : (join (x :: r) [44]).length = r.length + lens (x :: r) := by rw [join_length]; simp
    rw [h2, Nat.add_mul, List.length_cons]
    rw [List.length_cons] at h1
    omega
theorem name_size {s : ByteArray} (h : nameB s = true) : s.data.toList.length ≤ 20 := by
  have := ((nameB_iff s).1 h).2.1
  simpa using this
end Go.Proofs.YtbncofgbpffmkaaGreatDoor.Pl
