/- Texts joined: Offer, Range, Members. -/
import Derived.Test.YtgpfpnenpgnogaaGreatDoorJa17
import Derived.RangeFuncNested
import Derived.RangeFuncBound
import Derived.RangeFuncCalls
import Derived.RangeFuncLeaves
import Derived.Shelf.RegionOpen
import Derived.WalkKit
import Derived.OwnWalkIn
import Derived.TacticsInMore
import Derived.LoopNIn
import Derived.LoopIn
import Derived.Maps.AppendAt
import Derived.Test.YtgpfpnenpgnogaaGreatDoorJa04
import Derived.Shelf.Spec.TrailingZeros
/- offered; checkState; system.Offer. -/
namespace Go.Proofs.YtgpfpnenpgnogaaGreatDoor
open Go.RowKit Pl

def offN (l : List Edg) : Nat := l.foldl (fun s e => s ||| 2 ^ e.1.toNat) 0
theorem offN_take {l : List Edg} {j : Nat} (h : j < l.length) : offN (l.take (j + 1)) = offN (l.take j) ||| 2 ^ (edAt l j).1.toNat := by
  have e : edAt l j = l[j] := by simp [edAt, List.getD, h]
  unfold offN
  rw [List.take_succ_eq_append_getElem h, List.foldl_append, e]
  rfl
theorem offN_lt {l : List Edg} (h : ∀ k, k < l.length → 0 ≤ (edAt l k).1 ∧ (edAt l k).1 < 8) : ∀ j, j ≤ l.length → offN (l.take j) < 256
  | 0, _ => by simp [offN]
  | j + 1, hj => by
    rw [offN_take (by omega)]
    have h1 := h j (by omega)
    exact Nat.or_lt_two_pow (n := 8) (offN_lt h j (by omega)) (Nat.pow_lt_pow_right (by decide) (by omega))

theorem offered_any {w : World} {a : Option Addr} {n c : Nat} {l : List Edg} (A : EdgeArg w a n c l) (h8 : ∀ k, k < l.length → 0 ≤ (edAt l k).1 ∧ (edAt l k).1 < 8) :
    Calls Tryz.prog 75 #[.slice a n c] w fun e w' => e = .returned (.int .i64 (offN l)) ∧ Below w.heap.size w w' := by
  have HA := Lib.hid A
  have hn : n ≤ 140737488355328 := A.big
  have H8 := Lib.hid h8
  clear A h8
  go_enter Tryz.func75, Tryz.ntmps75
  go_wp2
  go_loopw [3, 5, 8] (fun s _ i wr => ∃ j t : Nat, j ≤ n ∧ i = .int .i64 j ∧ s = .int .i64 t ∧ t < 256 ∧ Hid (t = offN (l.take j)) ∧ Below w.heap.size w wr) (fun _ _ i _ => n - (intOf i).toNat)
  case atStart => exact ⟨0, 0, Nat.zero_le _, rfl, rfl, by decide, Lib.hid rfl, Below.refl _ _⟩
  case round =>
    obtain ⟨j, t, hj, rfl, rfl, ht, htb, hb⟩ := hrel
    by_cases hlt : j < n
    · obtain ⟨b, off, rfl, c0, c1⟩ := (HA.out.cells.below hb) j (by have := HA.out.len; omega)
      obtain ⟨h1, h2⟩ := H8.out j (by have := HA.out.len; omega)
      obtain ⟨m, hm⟩ := Int.eq_ofNat_of_zero_le h1
      obtain ⟨x2, hx2⟩ : ∃ x2, x2 = (edAt l j).2 := ⟨_, rfl⟩
      rw [← hx2] at c1
      rw [hm] at c0 h2
      obtain ⟨R, HR⟩ : ∃ R : Nat, Hid (R = t ||| 2 ^ m) := ⟨_, Lib.hid rfl⟩
      have hR : R < 256 := by rw [HR.out]; exact Nat.or_lt_two_pow (n := 8) ht (Nat.pow_lt_pow_right (by decide) (by omega))
      have HT : Hid (R = offN (l.take (j + 1))) := Lib.hid (by rw [offN_take (by have := HA.out.len; omega), hm, ← htb.out, HR.out]; rfl)
      have HO : Hid (bits .or .i64 (t : Int) (wrap64 (2 ^ m)) = (R : Int)) := Lib.hid (by
        have h2 := pow_le m (by omega)
        have h3 : ((2 ^ m : Nat) : Int) = (2 : Int) ^ m := by norm_cast
        have h4 : 2 ^ m < 256 := Nat.pow_lt_pow_right (n := 8) (by decide) (by omega)
        rw [IntWalk.wrap64_in _ ⟨by omega, by omega⟩, ← h3, HR.out]
        exact i64_or_nat t _ (by omega) (by omega))
      have HB := Lib.hid (hb.alloc hb.size (.cells #[.int .i64 m, .int .i64 x2] 69))
      clear hb h1 hm hx2
      go_wp2
      rw [HO.out]
      go_wp2
      go_roundw
      case rel => exact ⟨j + 1, R, by omega, by go_num, rfl, hR, HT, HB.out⟩
      case measure => simp [intOf]; omega
    · have HT : Hid (t = offN l) := Lib.hid (by
        have := htb.out
        rw [List.take_of_length_le (by have := HA.out.len; omega)] at this
        exact this)
      have HB := Lib.hid hb
      clear hb
      go_wp2
      go_ret
      exact ⟨by rw [HT.out]; rfl, HB.out⟩

/-- the error for a system and a state -/
def stC (m : Syst) (x : Int) : Int := if sysB m = true then (if 0 ≤ x ∧ x < m.states.length then 0 else 1) else 20
set_option maxRecDepth 100000 in
set_option maxHeartbeats 8000000 in
theorem checkState_any {w : World} {a : Option Addr} {n c : Nat} {b : Option Addr} {k d : Nat} {m : Syst} (x : Int) (hx : -9223372036854775808 ≤ x) (hx' : x ≤ 9223372036854775807) {e0 e1 e2 : Addr} (E : Errs w e0 e1 e2) (A : SysArg w a n c b k d m) :
    Calls Tryz.prog 56 #[.agg #[.slice a n c, .slice b k d], .int .i64 x] w fun e w' => e = .returned (.int .i64 (stC m x)) ∧ Below w.heap.size w w' := by
  have hB := (Below.refl w.heap.size w).alloc (Nat.le_refl _) (.cells #[.slice a n c, .slice b k d] 25)
  have hA := A.below hB
  have HC := Lib.hid (SCheck_any (E.below hB) hA)
  have HK := Lib.hid A.len
  have hk2 : k ≤ 140737488355328 := by have := A.cap; have := A.big; omega
  have HBB := Lib.hid hB
  have o2 : (w.alloc (.cells #[.slice a n c, .slice b k d] 25)).cell? ⟨w.heap.size, 1, none⟩ = some (.slice b k d) := (Whole.new w 25 #[.slice a n c, .slice b k d]).cell 1
  clear hB hA A E
  go_enter Tryz.func56, Tryz.ntmps56
  go_wp2_with fail
  refine HC.out.mono ?_
  rintro e w2 ⟨rfl, hb⟩
  have HB := Lib.hid (HBB.out.trans (hb.mono HBB.out.size))
  have o2C := up_cell hb o2
  clear hb
  by_cases hs : sysB m = true
  · rw [chk_yes hs]
    have HS := Lib.hid hs
    clear hs
    by_cases h0 : x < 0
    · have HV : Hid (stC m x = 1) := Lib.hid (by unfold stC; rw [if_pos HS.out, if_neg (by have := HK.out; omega)])
      go_wp2
      go_ret
      exact ⟨by rw [HV.out]; rfl, HB.out⟩
    · by_cases h1 : x < k
      · have HV : Hid (stC m x = 0) := Lib.hid (by unfold stC; rw [if_pos HS.out, if_pos (by have := HK.out; omega)])
        go_wp2
        go_ret
        exact ⟨by rw [HV.out]; rfl, HB.out⟩
      · have HV : Hid (stC m x = 1) := Lib.hid (by unfold stC; rw [if_pos HS.out, if_neg (by have := HK.out; omega)])
        go_wp2
        go_ret
        exact ⟨by rw [HV.out]; rfl, HB.out⟩
  · have HV : Hid (stC m x = 20) := Lib.hid (if_neg hs)
    rw [chk_no (by simpa using hs)]
    go_wp2
    go_ret
    exact ⟨by rw [HV.out]; rfl, HB.out⟩

def offerV (m : Syst) (x : Int) : Int := if stC m x = 0 then (offN (stAt m.states x.toNat) : Int) else 0
set_option maxRecDepth 100000 in
set_option maxHeartbeats 8000000 in
theorem Offer_any {w : World} {a : Option Addr} {n c : Nat} {b : Option Addr} {k d : Nat} {m : Syst} (x : Int) (hx : -9223372036854775808 ≤ x) (hx' : x ≤ 9223372036854775807) {e0 e1 e2 : Addr} (E : Errs w e0 e1 e2) (A : SysArg w a n c b k d m) :
    Calls Tryz.prog 50 #[.agg #[.slice a n c, .slice b k d], .int .i64 x] w fun e w' => e = .returned (.tuple #[.int .i64 (offerV m x), .int .i64 (stC m x)]) ∧ Below w.heap.size w w' := by
  have hB := (Below.refl w.heap.size w).alloc (Nat.le_refl _) (.cells #[.slice a n c, .slice b k d] 25)
  have hA := A.below hB
  have HA := Lib.hid hA
  have HC := Lib.hid (checkState_any x hx hx' (E.below hB) hA)
  have HK := Lib.hid A.len
  have hk2 : k ≤ 140737488355328 := by have := A.cap; have := A.big; omega
  have HBB := Lib.hid hB
  have o2 : (w.alloc (.cells #[.slice a n c, .slice b k d] 25)).cell? ⟨w.heap.size, 1, none⟩ = some (.slice b k d) := (Whole.new w 25 #[.slice a n c, .slice b k d]).cell 1
  clear hB hA A E
  go_enter Tryz.func50, Tryz.ntmps50
  go_wp2_with fail
  refine HC.out.mono ?_
  rintro e w2 ⟨rfl, hb⟩
  have HB := Lib.hid (HBB.out.trans (hb.mono HBB.out.size))
  have o2C := up_cell hb o2
  have HA2 := Lib.hid (HA.out.below hb)
  clear hb
  by_cases hs : stC m x = 0
  · have hx : sysB m = true ∧ 0 ≤ x ∧ x < m.states.length := by
      unfold stC at hs
      split at hs
      · rename_i h
        split at hs
        · exact ⟨h, by assumption⟩
        · cases hs
      · cases hs
    obtain ⟨h1, h2, h3⟩ := hx
    obtain ⟨j, rfl⟩ := Int.eq_ofNat_of_zero_le h2
    have hj : j < k := by have := HK.out; omega
    obtain ⟨bb, off, rfl, ai, ni, ci, c1, hE⟩ := HA2.out.rows j (by omega)
    obtain ⟨h4, h5, h6, h7, h8⟩ := (sysB_iff m).1 h1
    have hac8 := ((actsB_iff m.acts).1 h4).1
    have HO := Lib.hid (offered_any hE (fun q hq => by
      have := (edgesB_iff _ _ _).1 (h7 j (by omega)) q hq
      have := (okE_iff _ _ _).1 (by unfold edgeB at this; rw [Bool.and_eq_true] at this; exact this.1)
      omega))
    have HV : Hid (offerV m j = offN (stAt m.states j)) := Lib.hid (if_pos hs)
    have HSV := Lib.hid hs
    rw [hs]
    clear hs h1 h2 h3 hE h4 h5 h6 h7 h8 hac8
    go_wp2_with fail
    refine HO.out.mono ?_
    rintro e w3 ⟨rfl, hb⟩
    have HB3 := Lib.hid (HB.out.trans (hb.mono HB.out.size))
    clear hb
    go_wp2
    exact bodyPost_ret (v := .tuple #[.int .i64 (offN (stAt m.states j)), .int .i64 0]) (by simp [results, Tryz.results50, go_sem]) rfl ⟨by rw [HV.out, HSV.out], HB3.out⟩
  · have HV : Hid (offerV m x = 0) := Lib.hid (if_neg hs)
    obtain ⟨cd, hcd⟩ : ∃ cd, stC m x = cd := ⟨_, rfl⟩
    rw [hcd] at hs ⊢
    go_wp2
    exact bodyPost_ret (v := .tuple #[.int .i64 0, .int .i64 cd]) (by simp [results, Tryz.results50, go_sem]) rfl ⟨by rw [HV.out, hcd], HB.out⟩
end Go.Proofs.YtgpfpnenpgnogaaGreatDoor
/- A range over a function, as its caller sees it: one invariant of the caller's own, one walk of the body, one walk of the iterator. Nothing here is about a program. -/
namespace Go.Proofs.YtgpfpnenpgnogaaGreatDoor
open Go.RowKit

theorem addr_add (g j : Nat) : (⟨g, 0, none⟩ : Addr).add j = ⟨g, j, none⟩ := by
  unfold Addr.add
  by_cases h : j = 0
  · rw [if_pos h, h]
  · rw [if_neg h, Nat.zero_add]
theorem cell_first (w : World) (v : Value) (t : TypeId) : (w.alloc (.cells #[v] t)).cell? ⟨w.heap.size, 0, none⟩ = some v := (Boxed.new w t v).cell
theorem ownsRow_lower {w : World} {base base' : Nat} {e : TypeId} {size : Nat} {v : Value} {n : Nat} {xs : List Value} (h : w.ownsRow base e size v n xs) (hb : base' ≤ base) : w.ownsRow base' e size v n xs := by
  obtain ⟨h1, h2 | ⟨g, cap, cur, hv, hg, r⟩⟩ := h
  · exact ⟨h1, .inl h2⟩
  · exact ⟨h1, .inr ⟨g, cap, cur, hv, Nat.le_trans hb hg, r⟩⟩
/-- an owned row lies on where nothing that lay has turned -/
theorem ownsRow_below {w w' : World} {base : Nat} {e : TypeId} {size : Nat} {v : Value} {n : Nat} {xs : List Value} (h : w.ownsRow base e size v n xs) (hb : Below w.heap.size w w') : w'.ownsRow base e size v n xs := by
  obtain ⟨h1, h2 | ⟨g, cap, cur, hv, hg, hh, r⟩⟩ := h
  · exact ⟨h1, .inl h2⟩
  · exact ⟨h1, .inr ⟨g, cap, cur, hv, hg, (hb.block _ (Array.getElem?_eq_some_iff.1 hh).1).trans hh, r⟩⟩

/-- whatever is no cells, and lay at or beyond B, lies as it lay -/
structure Stays (B : Nat) (V W : World) : Prop where
  size : V.heap.size ≤ W.heap.size
  same : ∀ (k : Nat) (o : Obj), B ≤ k → V.heap[k]? = some o → o.isCells = false → W.heap[k]? = some o
theorem Stays.refl (B : Nat) (V : World) : Stays B V V := ⟨Nat.le_refl _, fun _ _ _ h _ => h⟩
theorem Stays.trans {B : Nat} {U V W : World} (h : Stays B U V) (k : Stays B V W) : Stays B U W :=
  ⟨Nat.le_trans h.size k.size, fun i o hi ho hc => k.same i o hi (h.same i o hi ho hc) hc⟩
theorem Stays.below {B : Nat} {V W : World} (h : Below V.heap.size V W) : Stays B V W :=
  ⟨h.size, fun k _ _ hk _ => (h.block k (Array.getElem?_eq_some_iff.1 hk).1).trans hk⟩
theorem Stays.others {B : Nat} {V W : World} (h : KeepsOthers V W) : Stays B V W := ⟨h.size, fun k o _ hk ho => h.same k o hk ho⟩
theorem Stays.setCell (B : Nat) (V : World) (a : Addr) (v : Value) : Stays B V (V.setCell a v) := .others (KeepsOthers.setCell V a v)
theorem Stays.alloc (B : Nat) (V : World) (o : Obj) : Stays B V (V.alloc o) := .others (KeepsOthers.alloc V o)
theorem Stays.drew (B : Nat) (V : World) : Stays B V V.drew := .others (KeepsOthers.drew V)

/-- how a round's body may be left -/
def leftPost {α : Type} (B : Nat) (I : List α → World → Prop) (Ix : Code → List α → World → Prop) (xs : List α) (V : World) : Exit → Act → World → Prop
  | .normal, _, W => Stays B V W ∧ I xs W
  | .ret, _, W => Stays B V W ∧ Ix .ret xs W
  | .exit id, _, W => Stays B V W ∧ Ix (.exit id) xs W
  | .goto t, _, W => Stays B V W ∧ Ix (.goto t) xs W
  | .panic _, _, _ => False
  | .outgrown, _, _ => False

/-- what an iterator owes its caller; σ: what the caller's invariant says of the iterator's own state, which a round leaves as it is -/
def IterG {σ α : Type} (P : Program) (gf : Nat) (lb : Array Value) (encs : α → Array Value) (ok : List α → α → Prop) (S : List α → Prop) (B : Nat) (I : σ → List α → World → Prop) (Ix : Code → List α → World → Prop) (s0 : σ) : Prop :=
  ∀ (l : Nat) (Bk : World → Prop) (Bx : Code → World → Prop) (W : World),
    (∀ V V', Bk V → Stays B V V' → Bk V') → (∀ c V V', Bx c V → Stays B V V' → Bx c V') →
    (∀ s pre x V, I s pre V → Bk V → ok pre x → YieldAt Fence.wide 1 P l (encs x) V fun e V' =>
      (e = .returned (.bool true) ∧ I s (pre ++ [x]) V' ∧ Bk V') ∨ (e = .returned (.bool false) ∧ ∃ c, Ix c (pre ++ [x]) V' ∧ Bx c V')) →
    I s0 [] W → Bk W →
    CallsIn Fence.wide 2 P gf (#[.func (.yield l) #[] #[]] ++ lb) W fun e V' => (∃ v, e = .returned v) ∧ ((∃ xs s, S xs ∧ I s xs V' ∧ Bk V') ∨ (∃ pre c, Ix c pre V' ∧ Bx c V'))

theorem range_lawG {σ α : Type} {P : Program} {g : Operand} {ps : Array Tmp} {assign body : Code} {Q : Exit → Act → World → Prop} {a : Act} {w : World} {gf : Nat} {lb : Array Value}
    (hg : a.eval g = .func (.func gf) #[] lb) (eg : ∀ args w, (callFunc gf args).run P w = .ok (.enter gf args) w)
    {encs : α → Array Value} (hps : ∀ x, (encs x).size = ps.size) {ok : List α → α → Prop} {S : List α → Prop}
    (I : σ → List α → World → Prop) (Ix : Code → List α → World → Prop) (hI : ∀ s, OwnFrom w.heap.size (I s)) (hIx : ∀ c, OwnFrom w.heap.size (Ix c)) (s0 : σ) (h0 : I s0 [] w) (a₁ : α → Act)
    (hit : IterG P gf lb encs ok S w.heap.size I Ix s0)
    (hassign : ∀ (l : Nat) (x : α) (W : World) (K : Act → World → Prop), K (a₁ x) W →
      assign.wpIn (Fence.wide.inRound l) 1 P (Exit.then K (fun _ _ _ => False)) { tmps := (ps.zip (encs x)).foldl (fun t (p, v) => t.setIfInBounds p v) a.tmps, defers := [] } W)
    (hbody : ∀ (s : σ) (l : Nat) (pre : List α) (x : α) (W : World), I s pre W → ok pre x → body.wpIn (Fence.wide.inRound l) 1 P (leftPost w.heap.size (I s) Ix (pre ++ [x]) W) (a₁ x) W)
    (hdone : ∀ (D : Nat) (xs : List α) (s : σ) (W : World), w.heap.size ≤ D → S xs → I s xs W → W.heap[D]? = some (.deferred (some [])) → Q .normal { a with defers := { target := .collected D, args := #[] } :: a.defers } W)
    (hstop : ∀ (D : Nat) (c : Code) (pre : List α) (W : World), w.heap.size ≤ D → Ix c pre W → W.heap[D]? = some (.deferred (some [])) → c.wpIn Fence.wide 3 P Q { a with defers := { target := .collected D, args := #[] } :: a.defers } W) :
    (Code.rangeFunc g ps assign body).wpIn Fence.wide 3 P Q a w := by
  refine wpIn_rangeFunc fun fn hfn => ?_
  -- the two blocks of the loop: D for deferred calls, L for its record
  let rec_ : LoopState → Option Code → Obj := fun st pe => .loop { state := st, pending := pe, fn, tmps := a.tmps, params := ps, assign, body, defers := w.heap.size }
  let At : LoopState → Option Code → World → Prop := fun st pe W => w.heap.size + 1 < W.heap.size ∧ W.heap[w.heap.size + 1]? = some (rec_ st pe) ∧ W.heap[w.heap.size]? = some (.deferred (some []))
  have stay : ∀ st pe V V', At st pe V → Stays w.heap.size V V' → At st pe V' := fun st pe V V' h hs =>
    ⟨Nat.lt_of_lt_of_le h.1 hs.size, hs.same _ _ (by omega) h.2.1 rfl, hs.same _ _ (Nat.le_refl _) h.2.2 rfl⟩
  have put : ∀ st pe st' pe' V, At st pe V → At st' pe' (V.putObj (w.heap.size + 1) (rec_ st' pe')) := fun st pe st' pe' V h =>
    ⟨by rw [World.putObj_size]; exact h.1, World.putObj_heap_same h.1, (World.putObj_heap_other (by omega)).trans h.2.2⟩
  have own : ∀ {β : Type} {J : β → World → Prop} (s : β) st pe o V, OwnFrom w.heap.size J → J s V → At st pe V → J s (V.putObj (w.heap.size + 1) o) := fun s st pe o V hJ hs h =>
    hJ.putObj o hs (by omega) h.2.1 rfl
  have a1 : At .ready none ((w.alloc (.deferred (some []))).alloc (rec_ .ready none)) := by
    refine ⟨by simp, ?_, ?_⟩
    · have := World.alloc_heap_new (w.alloc (.deferred (some []))) (rec_ .ready none)
      rwa [World.size_alloc] at this
    · exact (Below.heap_alloc _ _ _ (by simp)).trans (World.alloc_heap_new w _)
  obtain ⟨W1, hW1⟩ : ∃ W1, (w.alloc (.deferred (some []))).alloc (rec_ .ready none) = W1 := ⟨_, rfl⟩
  have h1 : I s0 [] W1 := by rw [← hW1]; exact (hI s0).alloc _ ((hI s0).alloc _ h0)
  rw [hW1] at a1
  refine ⟨w.heap.size + 1, [{ target := .collected w.heap.size, args := #[] }], W1, { target := .fn (.func gf) lb, args := #[.func (.yield (w.heap.size + 1)) #[] #[]] }, W1, gf, #[.func (.yield (w.heap.size + 1)) #[] #[]] ++ lb, W1, by rw [← hW1]; exact run_enterLoop_outer _ _ _ _ _, ?_, fun _ _ => trivial, ?_, fun _ => by decide, ?_⟩
  · simp only [resolve, hg]
    simp [go_sem]
  · simp [invoke, go_sem, eg]
  refine (hit (w.heap.size + 1) (At .ready none) (fun c => At .done (some c)) _ (stay _ _) (fun c => stay _ _) ?_ h1 a1).mono ?_
  · -- one round
    intro s pre x V hi hat hok
    have hy := run_yield (P := P) (args := encs x) hat.2.1 (hps x)
    refine ⟨fn, _, assign, body, hy, roundIn_of_wpIn hfn (hassign _ x V _ ⟨_, run_beginRound hat.2.1 rfl, ?_⟩)⟩
    have hb := put _ _ .busy none V hat
    refine wpIn_mono (hbody s _ pre x _ (own pre _ _ (rec_ .busy none) V (hI s) hi hat) hok) ?_
    rintro e a3 W3 hp
    cases e with
    | normal =>
      have h3 := stay _ _ _ _ hb hp.1
      exact ⟨_, _, run_endRound (P := P) none h3.2.1, .inl ⟨rfl, own _ _ _ _ _ (hI s) hp.2 h3, put _ _ .ready none _ h3⟩⟩
    | ret =>
      have h3 := stay _ _ _ _ hb hp.1
      exact ⟨_, _, run_endRound (P := P) (some .ret) h3.2.1, .inr ⟨rfl, .ret, own _ _ _ _ _ (hIx _) hp.2 h3, put _ _ .done (some .ret) _ h3⟩⟩
    | exit id =>
      have h3 := stay _ _ _ _ hb hp.1
      exact ⟨_, _, run_endRound (P := P) (some (.exit id)) h3.2.1, .inr ⟨rfl, .exit id, own _ _ _ _ _ (hIx _) hp.2 h3, put _ _ .done (some (.exit id)) _ h3⟩⟩
    | goto t =>
      have h3 := stay _ _ _ _ hb hp.1
      exact ⟨_, _, run_endRound (P := P) (some (.goto t)) h3.2.1, .inr ⟨rfl, .goto t, own _ _ _ _ _ (hIx _) hp.2 h3, put _ _ .done (some (.goto t)) _ h3⟩⟩
    | panic ch => exact hp.elim
    | outgrown => exact hp.elim
  · rintro e V ⟨⟨v, rfl⟩, (⟨xs, s, hS, hi, hat⟩ | ⟨pre, c, hi, hat⟩)⟩
    · exact ⟨none, _, run_endLoop (P := P) hat.2.1 (by simp), hdone _ xs s _ (Nat.le_refl _) hS (own _ _ _ _ _ (hI s) hi hat) (put _ _ .exhausted none _ hat).2.2⟩
    · exact ⟨some c, _, run_endLoop (P := P) hat.2.1 (by simp), hstop _ c pre _ (Nat.le_refl _) (own _ _ _ _ _ (hIx c) hi hat) (put _ _ .exhausted (some c) _ hat).2.2⟩

/-- the same where the iterator keeps no state of its own -/
def IterOf {α : Type} (P : Program) (gf : Nat) (lb : Array Value) (encs : α → Array Value) (ok : List α → α → Prop) (S : List α → Prop) (B : Nat) (I : List α → World → Prop) (Ix : Code → List α → World → Prop) : Prop :=
  IterG P gf lb encs ok S B (fun (_ : Unit) => I) Ix ()
theorem range_law {α : Type} {P : Program} {g : Operand} {ps : Array Tmp} {assign body : Code} {Q : Exit → Act → World → Prop} {a : Act} {w : World} {gf : Nat} {lb : Array Value}
    (hg : a.eval g = .func (.func gf) #[] lb) (eg : ∀ args w, (callFunc gf args).run P w = .ok (.enter gf args) w)
    {encs : α → Array Value} (hps : ∀ x, (encs x).size = ps.size) {ok : List α → α → Prop} {S : List α → Prop}
    (I : List α → World → Prop) (Ix : Code → List α → World → Prop) (hI : OwnFrom w.heap.size I) (hIx : ∀ c, OwnFrom w.heap.size (Ix c)) (h0 : I [] w) (a₁ : α → Act)
    (hit : IterOf P gf lb encs ok S w.heap.size I Ix)
    (hassign : ∀ (l : Nat) (x : α) (W : World) (K : Act → World → Prop), K (a₁ x) W →
      assign.wpIn (Fence.wide.inRound l) 1 P (Exit.then K (fun _ _ _ => False)) { tmps := (ps.zip (encs x)).foldl (fun t (p, v) => t.setIfInBounds p v) a.tmps, defers := [] } W)
    (hbody : ∀ (l : Nat) (pre : List α) (x : α) (W : World), I pre W → ok pre x → body.wpIn (Fence.wide.inRound l) 1 P (leftPost w.heap.size I Ix (pre ++ [x]) W) (a₁ x) W)
    (hdone : ∀ (D : Nat) (xs : List α) (W : World), w.heap.size ≤ D → S xs → I xs W → W.heap[D]? = some (.deferred (some [])) → Q .normal { a with defers := { target := .collected D, args := #[] } :: a.defers } W)
    (hstop : ∀ (D : Nat) (c : Code) (pre : List α) (W : World), w.heap.size ≤ D → Ix c pre W → W.heap[D]? = some (.deferred (some [])) → c.wpIn Fence.wide 3 P Q { a with defers := { target := .collected D, args := #[] } :: a.defers } W) :
    (Code.rangeFunc g ps assign body).wpIn Fence.wide 3 P Q a w :=
  range_lawG hg eg hps (fun (_ : Unit) => I) Ix (fun _ => hI) hIx () h0 a₁ hit hassign (fun _ => hbody) (fun D xs _ => hdone D xs) hstop

/-- append onto a row of the call's own, as a step of a region that draws its order, in whatever frame -/
theorem stepIn_append_own {F : Fence} {m : Nat} {P : Program} {w : World} {ops : Array Oper} {o : Oper} {a : Act} {K : Act → World → Prop} {Q : Exit → Act → World → Prop} {E : Prop}
    (hg : o.guard = none) (s x : Operand) (t : TypeId) (hop : o.op = Op.call { callee := Callee.builtin Builtin.append, args := #[s, x], argTypes := #[t, t] })
    (base : Nat) (e : TypeId) (i : TypeInfo) (z : Value) (size bytes : Nat) (h1 : P.underlying t = some (.slice e)) (h2 : P.info? e = some i) (h3 : i.zero = some z) (h4 : i.size = size) (h5 : i.bytes = bytes) (h6 : z.cells.size = size) (h7 : 0 < size)
    (v : Value) (k : Nat) (xs : List Value) (hs : a.eval s = v) (hown : w.ownsRow base e size v k xs) (ad : Addr) (q c : Nat) (news : List Value) (hx : a.eval x = .slice (some ad) q c) (hn : news.length = q * size)
    (hc : ∀ j u, news[j]? = some u → w.cell? (ad.add j) = some u) (h1c : ∀ u ∈ news, u.oneCell' = true) (b1 : k + q ≤ maxLen) (b2 : (k + q) * bytes ≤ 140737488355328) (b3 : base ≤ w.heap.size)
    (hK : ∀ v' w', w'.ownsRow base e size v' (k + q) (xs ++ news) → w.grownBy w' v.ownBlock → K (a.put o.dst v') w') :
    if Region.wanted o (yielded ops a.tmps) = true then Oper.wpIn F m P o a w K Q else E := by
  rw [if_pos (by simp [Region.wanted, hg])]
  obtain ⟨v', w', hrun, r1, r2, _⟩ := run_append_own (P := P) w base t o.type e i z size bytes h1 h2 h3 h4 h5 h6 h7 v k xs hown ad q c news hn hc h1c b1 b2 b3
  refine ⟨by simp [Oper.about, hop, resolve, Target.leads, Sem.run_pure], ?_⟩
  rw [Oper.semAt_plain F _ _ (by rw [hop]; intro c hc'; cases hc')]
  simp [execOp, hop, resolve, invoke, builtin, hs, hx, hrun, Result.andThen]
  exact hK v' w' r1 r2
end Go.Proofs.YtgpfpnenpgnogaaGreatDoor
/- The members of a set, as the iterator yields them. -/
namespace Go.Proofs.YtgpfpnenpgnogaaGreatDoor
open Go.RowKit Go.Shelf Pl

theorem memL_next : ∀ x, x < 256 → x ≠ 0 → memL x = Lib.ctz 64 x :: memL (x &&& (x - 1)) ∧ x &&& (x - 1) < x := by decide +kernel
theorem memL_zero : memL 0 = [] := by decide
theorem memL_lt {x k : Nat} (h : k ∈ memL x) : k < 8 := by
  unfold memL at h
  rw [List.mem_filter, List.mem_range] at h
  exact h.1

/-- the table that math/bits looks up -/
def Tab (w : World) : Prop := TabAt 4 Lib.deBruijn64tab w
theorem Tab.below {w w' : World} (h : Tab w) (hb : Below w.heap.size w w') : Tab w' := fun j hj => (hb.cell (lt_of_cell (h j hj))).trans (h j hj)

set_option maxHeartbeats 400000 in
theorem tz64_core (x k idx : Nat) (w : World) (hx0 : ((x : Int) == 0) = false)
    (key : IntKind.u64.wrap (bits BinOp.and IntKind.u64 (x : Int) (IntKind.u64.wrap (-(x : Int))) * 285870213051353865) / 288230376151711744 = (idx : Int))
    (hi : idx < 64) (hk : k < 64) (hcell : w.cell? ⟨4, idx, none⟩ = some (.int .u8 k)) :
    Calls Tryz.prog 154 #[.int .u64 x] w fun e w' => e = .returned (.int .i64 k) ∧ w = w' := by
  go_enter Tryz.func154, Tryz.ntmps154
  go_wp2_with (simp only [key])
  go_ret
  exact ⟨rfl, rfl⟩
theorem tz64_any (x : Nat) (hx : x < 18446744073709551616) (h0 : x ≠ 0) (w : World) (hT : Tab w) :
    Calls Tryz.prog 154 #[.int .u64 x] w fun e w' => e = .returned (.int .i64 (Lib.ctz 64 x)) ∧ w = w' := by
  obtain ⟨hlow, hk⟩ := Lib.lowest_bit 64 x h0 hx
  obtain ⟨hi, htab⟩ := Lib.deBruijn64_at _ hk
  have hcell := hT _ hi
  rw [htab] at hcell
  exact tz64_core x _ _ w (by simp; omega) (tz64_key x _ hx h0 hlow) hi hk hcell
theorem tz_any (x : Nat) (hx : x < 18446744073709551616) (h0 : x ≠ 0) (w : World) (hT : Tab w) :
    Calls Tryz.prog 123 #[.int .u64 x] w fun e w' => e = .returned (.int .i64 (Lib.ctz 64 x)) ∧ w = w' := by
  have HT := Lib.hid hT
  clear hT
  go_enter Tryz.func123, Tryz.ntmps123
  go_wp2_with fail
  refine (tz64_any x hx h0 _ HT.out).mono ?_
  rintro e w' ⟨rfl, rfl⟩
  go_wp2
  go_ret
  exact ⟨rfl, rfl⟩

attribute [local go_sem] Oper.semAt_some

set_option maxRecDepth 100000 in
set_option maxHeartbeats 1000000 in
/-- the iterator that members makes -/
theorem members_iter (B C x : Nat) (hx : x < 256) (I : List Nat → World → Prop) (Ix : Code → List Nat → World → Prop)
    (hT : ∀ pre V, I pre V → Tab V) (hC : ∀ pre V, I pre V → V.cell? ⟨C, 0, none⟩ = some (.int .i64 x)) :
    IterOf Tryz.prog 122 #[.pointer (some ⟨C, 0, none⟩)] (fun k : Nat => #[.int .i64 k]) (fun pre k => pre ++ [k] <+: memL x) (fun xs => xs = memL x) B I Ix := by
  intro l Bk Bx W _ _ hY h0 hb0
  have hc0 := hC _ _ h0
  have HT := Lib.hid hT
  clear hT hC
  have HY := Lib.hid hY
  clear hY
  refine callsIn_of_wp Tryz.func122 rfl trivial ?_ rfl
  simp only [Tryz.ntmps122, List.size_toArray, List.length_cons, List.length_nil, Nat.reduceAdd, Nat.reduceSub, Array.replicate_succ, Array.replicate_zero, List.push_toArray, List.append_toArray, List.nil_append, List.cons_append]
  gi_wp2
  gi_loopw [3] (fun p V => ∃ (pre : List Nat) (r : Nat), p = .int .u64 r ∧ r < 256 ∧ Hid (memL x = pre ++ memL r) ∧ Hid (I pre V ∧ Bk V)) (fun p _ => (intOf p).toNat)
  case atStart => exact ⟨[], x, by simp, hx, Lib.hid rfl, Lib.hid ⟨h0, hb0⟩⟩
  case round =>
    obtain ⟨pre, r, rfl, hr, hm, hI⟩ := hrel
    by_cases hz : r = 0
    · subst hz
      gi_wp2
      go_end0
      exact ⟨⟨_, rfl⟩, .inl ⟨pre, (), by rw [hm.out, memL_zero, List.append_nil], hI.out.1, hI.out.2⟩⟩
    · obtain ⟨hn1, hn2⟩ := memL_next r hr hz
      have htz := Lib.hid (tz_any r (by omega) hz wr (HT.out _ _ hI.out.1))
      have hand := Lib.hid (bits_and_u64_nat r (r - 1) (by omega) (by omega))
      have hz' : ((r : Int) != 0) = true := by rw [bne_iff_ne]; omega
      obtain ⟨k, hk⟩ : ∃ k, Lib.ctz 64 r = k := ⟨_, rfl⟩
      obtain ⟨r', hr'⟩ : ∃ r', r &&& (r - 1) = r' := ⟨_, rfl⟩
      rw [hk] at hn1 htz
      rw [hr'] at hn1 hn2 hand
      have HM : Hid (memL x = (pre ++ [k]) ++ memL r') := Lib.hid (by rw [hm.out, hn1]; simp)
      clear hk hr' hn1 hz
      obtain ⟨fn, tmps, assign, body, hy, hR⟩ := HY.out () pre k wr hI.out.1 hI.out.2 ⟨memL r', HM.out.symm⟩
      gi_wp2_with (refine ⟨trivial, ?_⟩; gi_at_call 123; refine (callsIn_wide.2 htz.out).mono ?_; rintro e w' ⟨rfl, rfl⟩)
      refine hR.mono ?_
      rintro e W3 (⟨rfl, hI3, hb3⟩ | ⟨rfl, c, hx3, hb3⟩)
      · have hr1 : 1 ≤ (r : Int) := by omega
        gi_wp2
        go_roundw
        case rel => exact ⟨pre ++ [k], r', by rw [show (r : Int) - 1 = ((r - 1 : Nat) : Int) from by omega, hand.out], by omega, HM, Lib.hid ⟨hI3, hb3⟩⟩
        case measure => rw [show (r : Int) - 1 = ((r - 1 : Nat) : Int) from by omega, hand.out]; simp [intOf]; omega
      · gi_wp2
        refine bodyPost_ret (results_none rfl _ _ _) rfl ?_
        exact ⟨⟨_, rfl⟩, .inr ⟨_, c, hx3, hb3⟩⟩
end Go.Proofs.YtgpfpnenpgnogaaGreatDoor
