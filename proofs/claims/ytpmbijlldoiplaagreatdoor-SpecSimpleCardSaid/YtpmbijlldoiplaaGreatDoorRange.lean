/- A range over a function, as its caller sees it: one invariant of the caller's own, one walk of the body, one walk of the iterator. Nothing here is about a program. -/
import Derived.RangeFuncNested
import Derived.RangeFuncBound
import Derived.RangeFuncCalls
import Derived.RangeFuncLeaves
import Derived.Shelf.RegionOpen
import Derived.WalkKit
import Derived.OwnWalkIn
import Derived.TacticsInMore
import Derived.LoopNIn
import Derived.LoopIn
import Derived.Maps.AppendAt
namespace Go.Proofs.YtpmbijlldoiplaaGreatDoor
open Go.RowKit

theorem addr_add (g j : Nat) : (⟨g, 0, none⟩ : Addr).add j = ⟨g, j, none⟩ := by
  unfold Addr.add
  by_cases h : j = 0
  · rw [if_pos h, h]
  · rw [if_neg h, Nat.zero_add]
theorem cell_first (w : World) (v : Value) (t : TypeId) : (w.alloc (.cells #[v] t)).cell? ⟨w.heap.size, 0, none⟩ = some v := (Boxed.new w t v).cell
theorem ownsRow_lower {w : World} {base base' : Nat} {e : TypeId} {size : Nat} {v : Value} {n : Nat} {xs : List Value} (h : w.ownsRow base e size v n xs) (hb : base' ≤ base) : w.ownsRow base' e size v n xs := by
  obtain ⟨h1, h2 | ⟨g, cap, cur, hv, hg, r⟩⟩ := h
  · exact ⟨h1, .inl h2⟩
  · exact ⟨h1, .inr ⟨g, cap, cur, hv, Nat.le_trans hb hg, r⟩⟩
/-- an owned row lies on where nothing that lay has turned -/
theorem ownsRow_below {w w' : World} {base : Nat} {e : TypeId} {size : Nat} {v : Value} {n : Nat} {xs : List Value} (h : w.ownsRow base e size v n xs) (hb : Below w.heap.size w w') : w'.ownsRow base e size v n xs := by
  obtain ⟨h1, h2 | ⟨g, cap, cur, hv, hg, hh, r⟩⟩ := h
  · exact ⟨h1, .inl h2⟩
  · exact ⟨h1, .inr ⟨g, cap, cur, hv, hg, (hb.block _ (Array.getElem?_eq_some_iff.1 hh).1).trans hh, r⟩⟩

/-- whatever is no cells, and lay at or beyond B, lies as it lay -/
structure Stays (B : Nat) (V W : World) : Prop where
  size : V.heap.size ≤ W.heap.size
  same : ∀ (k : Nat) (o : Obj), B ≤ k → V.heap[k]? = some o → o.isCells = false → W.heap[k]? = some o
theorem Stays.refl (B : Nat) (V : World) : Stays B V V := ⟨Nat.le_refl _, fun _ _ _ h _ => h⟩
theorem Stays.trans {B : Nat} {U V W : World} (h : Stays B U V) (k : Stays B V W) : Stays B U W :=
  ⟨Nat.le_trans h.size k.size, fun i o hi ho hc => k.same i o hi (h.same i o hi ho hc) hc⟩
theorem Stays.below {B : Nat} {V W : World} (h : Below V.heap.size V W) : Stays B V W :=
  ⟨h.size, fun k _ _ hk _ => (h.block k (Array.getElem?_eq_some_iff.1 hk).1).trans hk⟩
theorem Stays.others {B : Nat} {V W : World} (h : KeepsOthers V W) : Stays B V W := ⟨h.size, fun k o _ hk ho => h.same k o hk ho⟩
theorem Stays.setCell (B : Nat) (V : World) (a : Addr) (v : Value) : Stays B V (V.setCell a v) := .others (KeepsOthers.setCell V a v)
theorem Stays.alloc (B : Nat) (V : World) (o : Obj) : Stays B V (V.alloc o) := .others (KeepsOthers.alloc V o)
theorem Stays.drew (B : Nat) (V : World) : Stays B V V.drew := .others (KeepsOthers.drew V)

/-- how a round's body may be left -/
def leftPost {α : Type} (B : Nat) (I : List α → World → Prop) (Ix : Code → List α → World → Prop) (xs : List α) (V : World) : Exit → Act → World → Prop
  | .normal, _, W => Stays B V W ∧ I xs W
  | .ret, _, W => Stays B V W ∧ Ix .ret xs W
  | .exit id, _, W => Stays B V W ∧ Ix (.exit id) xs W
  | .goto t, _, W => Stays B V W ∧ Ix (.goto t) xs W
  | .panic _, _, _ => False
  | .outgrown, _, _ => False

/-- what an iterator owes its caller; σ: what the caller's invariant says of the iterator's own state, which a round leaves as it is -/
def IterG {σ α : Type} (P : Program) (gf : Nat) (lb : Array Value) (encs : α → Array Value) (ok : List α → α → Prop) (S : List α → Prop) (B : Nat) (I : σ → List α → World → Prop) (Ix : Code → List α → World → Prop) (s0 : σ) : Prop :=
  ∀ (l : Nat) (Bk : World → Prop) (Bx : Code → World → Prop) (W : World),
    (∀ V V', Bk V → Stays B V V' → Bk V') → (∀ c V V', Bx c V → Stays B V V' → Bx c V') →
    (∀ s pre x V, I s pre V → Bk V → ok pre x → YieldAt Fence.wide 1 P l (encs x) V fun e V' =>
      (e = .returned (.bool true) ∧ I s (pre ++ [x]) V' ∧ Bk V') ∨ (e = .returned (.bool false) ∧ ∃ c, Ix c (pre ++ [x]) V' ∧ Bx c V')) →
    I s0 [] W → Bk W →
    CallsIn Fence.wide 2 P gf (#[.func (.yield l) #[] #[]] ++ lb) W fun e V' => (∃ v, e = .returned v) ∧ ((∃ xs s, S xs ∧ I s xs V' ∧ Bk V') ∨ (∃ pre c, Ix c pre V' ∧ Bx c V'))

theorem range_lawG {σ α : Type} {P : Program} {g : Operand} {ps : Array Tmp} {assign body : Code} {Q : Exit → Act → World → Prop} {a : Act} {w : World} {gf : Nat} {lb : Array Value}
    (hg : a.eval g = .func (.func gf) #[] lb) (eg : ∀ args w, (callFunc gf args).run P w = .ok (.enter gf args) w)
    {encs : α → Array Value} (hps : ∀ x, (encs x).size = ps.size) {ok : List α → α → Prop} {S : List α → Prop}
    (I : σ → List α → World → Prop) (Ix : Code → List α → World → Prop) (hI : ∀ s, OwnFrom w.heap.size (I s)) (hIx : ∀ c, OwnFrom w.heap.size (Ix c)) (s0 : σ) (h0 : I s0 [] w) (a₁ : α → Act)
    (hit : IterG P gf lb encs ok S w.heap.size I Ix s0)
    (hassign : ∀ (l : Nat) (x : α) (W : World) (K : Act → World → Prop), K (a₁ x) W →
      assign.wpIn (Fence.wide.inRound l) 1 P (Exit.then K (fun _ _ _ => False)) { tmps := (ps.zip (encs x)).foldl (fun t (p, v) => t.setIfInBounds p v) a.tmps, defers := [] } W)
    (hbody : ∀ (s : σ) (l : Nat) (pre : List α) (x : α) (W : World), I s pre W → ok pre x → body.wpIn (Fence.wide.inRound l) 1 P (leftPost w.heap.size (I s) Ix (pre ++ [x]) W) (a₁ x) W)
    (hdone : ∀ (D : Nat) (xs : List α) (s : σ) (W : World), w.heap.size ≤ D → S xs → I s xs W → W.heap[D]? = some (.deferred (some [])) → Q .normal { a with defers := { target := .collected D, args := #[] } :: a.defers } W)
    (hstop : ∀ (D : Nat) (c : Code) (pre : List α) (W : World), w.heap.size ≤ D → Ix c pre W → W.heap[D]? = some (.deferred (some [])) → c.wpIn Fence.wide 3 P Q { a with defers := { target := .collected D, args := #[] } :: a.defers } W) :
    (Code.rangeFunc g ps assign body).wpIn Fence.wide 3 P Q a w := by
  refine wpIn_rangeFunc fun fn hfn => ?_
  -- the two blocks of the loop: D for deferred calls, L for its record
  let rec_ : LoopState → Option Code → Obj := fun st pe => .loop { state := st, pending := pe, fn, tmps := a.tmps, params := ps, assign, body, defers := w.heap.size }
  let At : LoopState → Option Code → World → Prop := fun st pe W => w.heap.size + 1 < W.heap.size ∧ W.heap[w.heap.size + 1]? = some (rec_ st pe) ∧ W.heap[w.heap.size]? = some (.deferred (some []))
  have stay : ∀ st pe V V', At st pe V → Stays w.heap.size V V' → At st pe V' := fun st pe V V' h hs =>
    ⟨Nat.lt_of_lt_of_le h.1 hs.size, hs.same _ _ (by omega) h.2.1 rfl, hs.same _ _ (Nat.le_refl _) h.2.2 rfl⟩
  have put : ∀ st pe st' pe' V, At st pe V → At st' pe' (V.putObj (w.heap.size + 1) (rec_ st' pe')) := fun st pe st' pe' V h =>
    ⟨by rw [World.putObj_size]; exact h.1, World.putObj_heap_same h.1, (World.putObj_heap_other (by omega)).trans h.2.2⟩
  have own : ∀ {β : Type} {J : β → World → Prop} (s : β) st pe o V, OwnFrom w.heap.size J → J s V → At st pe V → J s (V.putObj (w.heap.size + 1) o) := fun s st pe o V hJ hs h =>
    hJ.putObj o hs (by omega) h.2.1 rfl
  have a1 : At .ready none ((w.alloc (.deferred (some []))).alloc (rec_ .ready none)) := by
    refine ⟨by simp, ?_, ?_⟩
    · have := World.alloc_heap_new (w.alloc (.deferred (some []))) (rec_ .ready none)
      rwa [World.size_alloc] at this
    · exact (Below.heap_alloc _ _ _ (by simp)).trans (World.alloc_heap_new w _)
  obtain ⟨W1, hW1⟩ : ∃ W1, (w.alloc (.deferred (some []))).alloc (rec_ .ready none) = W1 := ⟨_, rfl⟩
  have h1 : I s0 [] W1 := by rw [← hW1]; exact (hI s0).alloc _ ((hI s0).alloc _ h0)
  rw [hW1] at a1
  refine ⟨w.heap.size + 1, [{ target := .collected w.heap.size, args := #[] }], W1, { target := .fn (.func gf) lb, args := #[.func (.yield (w.heap.size + 1)) #[] #[]] }, W1, gf, #[.func (.yield (w.heap.size + 1)) #[] #[]] ++ lb, W1, by rw [← hW1]; exact run_enterLoop_outer _ _ _ _ _, ?_, fun _ _ => trivial, ?_, fun _ => by decide, ?_⟩
  · simp only [resolve, hg]
    simp [go_sem]
  · simp [invoke, go_sem, eg]
  refine (hit (w.heap.size + 1) (At .ready none) (fun c => At .done (some c)) _ (stay _ _) (fun c => stay _ _) ?_ h1 a1).mono ?_
  · -- one round
    intro s pre x V hi hat hok
    have hy := run_yield (P := P) (args := encs x) hat.2.1 (hps x)
    refine ⟨fn, _, assign, body, hy, roundIn_of_wpIn hfn (hassign _ x V _ ⟨_, run_beginRound hat.2.1 rfl, ?_⟩)⟩
    have hb := put _ _ .busy none V hat
    refine wpIn_mono (hbody s _ pre x _ (own pre _ _ (rec_ .busy none) V (hI s) hi hat) hok) ?_
    rintro e a3 W3 hp
    cases e with
    | normal =>
      have h3 := stay _ _ _ _ hb hp.1
      exact ⟨_, _, run_endRound (P := P) none h3.2.1, .inl ⟨rfl, own _ _ _ _ _ (hI s) hp.2 h3, put _ _ .ready none _ h3⟩⟩
    | ret =>
      have h3 := stay _ _ _ _ hb hp.1
      exact ⟨_, _, run_endRound (P := P) (some .ret) h3.2.1, .inr ⟨rfl, .ret, own _ _ _ _ _ (hIx _) hp.2 h3, put _ _ .done (some .ret) _ h3⟩⟩
    | exit id =>
      have h3 := stay _ _ _ _ hb hp.1
      exact ⟨_, _, run_endRound (P := P) (some (.exit id)) h3.2.1, .inr ⟨rfl, .exit id, own _ _ _ _ _ (hIx _) hp.2 h3, put _ _ .done (some (.exit id)) _ h3⟩⟩
    | goto t =>
      have h3 := stay _ _ _ _ hb hp.1
      exact ⟨_, _, run_endRound (P := P) (some (.goto t)) h3.2.1, .inr ⟨rfl, .goto t, own _ _ _ _ _ (hIx _) hp.2 h3, put _ _ .done (some (.goto t)) _ h3⟩⟩
    | panic ch => exact hp.elim
    | outgrown => exact hp.elim
  · rintro e V ⟨⟨v, rfl⟩, (⟨xs, s, hS, hi, hat⟩ | ⟨pre, c, hi, hat⟩)⟩
    · exact ⟨none, _, run_endLoop (P := P) hat.2.1 (by simp), hdone _ xs s _ (Nat.le_refl _) hS (own _ _ _ _ _ (hI s) hi hat) (put _ _ .exhausted none _ hat).2.2⟩
    · exact ⟨some c, _, run_endLoop (P := P) hat.2.1 (by simp), hstop _ c pre _ (Nat.le_refl _) (own _ _ _ _ _ (hIx c) hi hat) (put _ _ .exhausted (some c) _ hat).2.2⟩

/-- the same where the iterator keeps no state of its own -/
def IterOf {α : Type} (P : Program) (gf : Nat) (lb : Array Value) (encs : α → Array Value) (ok : List α → α → Prop) (S : List α → Prop) (B : Nat) (I : List α → World → Prop) (Ix : Code → List α → World → Prop) : Prop :=
  IterG P gf lb encs ok S B (fun (_ : Unit) => I) Ix ()
theorem range_law {α : Type} {P : Program} {g : Operand} {ps : Array Tmp} {assign body : Code} {Q : Exit → Act → World → Prop} {a : Act} {w : World} {gf : Nat} {lb : Array Value}
    (hg : a.eval g = .func (.func gf) #[] lb) (eg : ∀ args w, (callFunc gf args).run P w = .ok (.enter gf args) w)
    {encs : α → Array Value} (hps : ∀ x, (encs x).size = ps.size) {ok : List α → α → Prop} {S : List α → Prop}
    (I : List α → World → Prop) (Ix : Code → List α → World → Prop) (hI : OwnFrom w.heap.size I) (hIx : ∀ c, OwnFrom w.heap.size (Ix c)) (h0 : I [] w) (a₁ : α → Act)
    (hit : IterOf P gf lb encs ok S w.heap.size I Ix)
    (hassign : ∀ (l : Nat) (x : α) (W : World) (K : Act → World → Prop), K (a₁ x) W →
      assign.wpIn (Fence.wide.inRound l) 1 P (Exit.then K (fun _ _ _ => False)) { tmps := (ps.zip (encs x)).foldl (fun t (p, v) => t.setIfInBounds p v) a.tmps, defers := [] } W)
    (hbody : ∀ (l : Nat) (pre : List α) (x : α) (W : World), I pre W → ok pre x → body.wpIn (Fence.wide.inRound l) 1 P (leftPost w.heap.size I Ix (pre ++ [x]) W) (a₁ x) W)
    (hdone : ∀ (D : Nat) (xs : List α) (W : World), w.heap.size ≤ D → S xs → I xs W → W.heap[D]? = some (.deferred (some [])) → Q .normal { a with defers := { target := .collected D, args := #[] } :: a.defers } W)
    (hstop : ∀ (D : Nat) (c : Code) (pre : List α) (W : World), w.heap.size ≤ D → Ix c pre W → W.heap[D]? = some (.deferred (some [])) → c.wpIn Fence.wide 3 P Q { a with defers := { target := .collected D, args := #[] } :: a.defers } W) :
    (Code.rangeFunc g ps assign body).wpIn Fence.wide 3 P Q a w :=
  range_lawG hg eg hps (fun (_ : Unit) => I) Ix (fun _ => hI) hIx () h0 a₁ hit hassign (fun _ => hbody) (fun D xs _ => hdone D xs) hstop

/-- append onto a row of the call's own, as a step of a region that draws its order, in whatever frame -/
theorem stepIn_append_own {F : Fence} {m : Nat} {P : Program} {w : World} {ops : Array Oper} {o : Oper} {a : Act} {K : Act → World → Prop} {Q : Exit → Act → World → Prop} {E : Prop}
    (hg : o.guard = none) (s x : Operand) (t : TypeId) (hop : o.op = Op.call { callee := Callee.builtin Builtin.append, args := #[s, x], argTypes := #[t, t] })
    (base : Nat) (e : TypeId) (i : TypeInfo) (z : Value) (size bytes : Nat) (h1 : P.underlying t = some (.slice e)) (h2 : P.info? e = some i) (h3 : i.zero = some z) (h4 : i.size = size) (h5 : i.bytes = bytes) (h6 : z.cells.size = size) (h7 : 0 < size)
    (v : Value) (k : Nat) (xs : List Value) (hs : a.eval s = v) (hown : w.ownsRow base e size v k xs) (ad : Addr) (q c : Nat) (news : List Value) (hx : a.eval x = .slice (some ad) q c) (hn : news.length = q * size)
    (hc : ∀ j u, news[j]? = some u → w.cell? (ad.add j) = some u) (h1c : ∀ u ∈ news, u.oneCell' = true) (b1 : k + q ≤ maxLen) (b2 : (k + q) * bytes ≤ 140737488355328) (b3 : base ≤ w.heap.size)
    (hK : ∀ v' w', w'.ownsRow base e size v' (k + q) (xs ++ news) → w.grownBy w' v.ownBlock → K (a.put o.dst v') w') :
    if Region.wanted o (yielded ops a.tmps) = true then Oper.wpIn F m P o a w K Q else E := by
  rw [if_pos (by simp [Region.wanted, hg])]
  obtain ⟨v', w', hrun, r1, r2, _⟩ := run_append_own (P := P) w base t o.type e i z size bytes h1 h2 h3 h4 h5 h6 h7 v k xs hown ad q c news hn hc h1c b1 b2 b3
  refine ⟨by simp [Oper.about, hop, resolve, Target.leads, Sem.run_pure], ?_⟩
  rw [Oper.semAt_plain F _ _ (by rw [hop]; intro c hc'; cases hc')]
  simp [execOp, hop, resolve, invoke, builtin, hs, hx, hrun, Result.andThen]
  exact hK v' w' r1 r2
end Go.Proofs.YtpmbijlldoiplaaGreatDoor
