/- Texts joined: SpRd, SpRd2, ShelfR. -/
import Derived.Test.YtohljainhkdiiaaGreatDoorJp19
import Derived.Test.YtohljainhkdiiaaGreatDoorJp35
import Derived.Test.YtohljainhkdiiaaGreatDoorJp08
import Derived.Test.YtohljainhkdiiaaGreatDoorJp15
import Derived.Test.YtohljainhkdiiaaGreatDoorJp16
import Derived.Test.YtohljainhkdiiaaGreatDoorJp09
import Derived.Maps.Own
import Derived.Laws.OwnMore
import Derived.Shelf.Strings.Builder1
import Derived.Shelf.Strings.Builder2
import Derived.Shelf.Strings.OnBuilder
import Derived.Shelf.Small.Bits
import Derived.Shelf.Small.Wraps
import Derived.Shelf.Strings.BuilderF
import Derived.Shelf.Strings.BuilderK
import Derived.Shelf.Strconv.Atoi
import Derived.Shelf.Strconv.Itoa0
import Derived.Shelf.Strconv.Itoa1
import Derived.Shelf.LaysM
import Derived.Shelf.Strconv.Itoa2
import Derived.Shelf.Strconv.Itoa3
import Derived.Shelf.Strconv.AtoiErrFast
import Derived.Shelf.Strconv.ParseIntEmpty
import Derived.Shelf.Strconv.AtoiFail
import Derived.Shelf.Strconv.Clone
import Derived.Shelf.Strconv.SyntaxError
import Derived.Shelf.LaysC
import Derived.Shelf.Strconv.ToError
import Derived.Shelf.Strconv.Lower
import Derived.Shelf.Strconv.ParseUint10
import Derived.Shelf.Strconv.ParseUint10Empty
import Derived.Shelf.Strconv.ParseUint10Any
import Derived.Shelf.Strconv.ParseInt10
import Derived.Shelf.Strconv.AtoiLong
import Derived.Shelf.Strconv.AtoiInnerAll
import Derived.Shelf.Strconv.RangeError
import Derived.Shelf.Strconv.ToErrorRange
import Derived.Shelf.Strconv.AtoiAll
import Derived.Shelf.Strconv.ErrVarAll
import Derived.Shelf.Strings.Search1
import Derived.Shelf.Strings.Search2
import Derived.Shelf.Strings.Search3
import Derived.Shelf.Strings.Count
import Derived.Shelf.Strings.Shaped
import Derived.Shelf.Strings.Prefix
import Derived.Shelf.Strings.Split
import Derived.Shelf.Bits.Mul64
import Derived.Shelf.Unicode.DecodeSlow
import Derived.Shelf.Slices.Turned
import Derived.Shelf.Slices.Reverse
import Derived.Shelf.Slices.Equal
import Derived.Ground.Names2Prog
import Derived.Shelf.Slices.Clone
import Derived.Shelf.Slices.Cells
import Derived.Shelf.Slices.Empties2
import Derived.Test.YtohljainhkdiiaaGreatDoorProg
/- The readers of a state: the table, and what each reads. -/
namespace Go.Proofs.YtohljainhkdiiaaGreatDoor
open Go.RowKit Pl

/-! ### a table of functions -/
theorem upd_new {P : Program} {w : World} {mty kt et : TypeId} {K : IntKind} {r clock : Nat} {es : Array MapEntry} {k : Int} {val : Value} (hm : P.underlying mty = some (.map kt et)) (hk : P.underlying kt = some (.int K)) (hb : w.heap[r]? = some (.map es clock))
    (hf : Instr.findNow (.int K) (.int K k) es.toList 0 = some none) :
    (Instr.mapUpdate mty (.map (some r)) (.int K k) val).run P w = .ok () { w with heap := w.heap.setIfInBounds r (.map (es.push { key := .int K k, val := val, born := clock }) (clock + 1)) } := by
  have hc : (Instr.checkKey false 10000 kt (.int K k)).run P w = .ok () w := MapKept.run_checkKey (k := .int K k) hk (by simp [MapKept.IsKey]) false 9999
  simp [Instr.mapUpdate, run_underlying hm, MapKept.run_getObj_map hb, hc, MapKept.run_findKey hk hf, MapKept.run_setObj_map _ hb, Result.andThen]
theorem look_hit {P : Program} {w : World} {mty kt et : TypeId} {K : IntKind} {r clock i : Nat} {es : Array MapEntry} {k : Int} {val : Value} (hm : P.underlying mty = some (.map kt et)) (hk : P.underlying kt = some (.int K)) (hb : w.heap[r]? = some (.map es clock))
    (hf : Instr.findNow (.int K) (.int K k) es.toList 0 = some (some (i, val))) : (Instr.lookup mty (.map (some r)) (.int K k) false).run P w = .ok val w := by
  have hc : (Instr.checkKey es.isEmpty 10000 kt (.int K k)).run P w = .ok () w := MapKept.run_checkKey (k := .int K k) hk (by simp [MapKept.IsKey]) _ 9999
  simp [Instr.lookup, run_underlying hm, MapKept.run_getObj_map hb, hc, MapKept.run_findKey hk hf, Result.andThen]
theorem below_heap {B r : Nat} {w0 w : World} {o : Obj} (hb : Below B w0 w) (hr : B ≤ r) : Below B w0 { w with heap := w.heap.setIfInBounds r o } :=
  ⟨hb.os, hb.tape, hb.output, by simpa using hb.size, fun k hk => by
    have := hb.block k hk
    rw [← this]
    show (w.heap.setIfInBounds r o)[k]? = w.heap[k]?
    rw [Array.getElem?_setIfInBounds, if_neg (by omega)]⟩
def rdE (k : Int) (f b : Nat) : MapEntry := { key := .int .i64 k, val := .func (.func f) #[] #[], born := b }
/-- the table of the readers -/
def rdTab : Array MapEntry := #[rdE 0 145 0, rdE 1 146 1, rdE 2 147 2]

set_option maxRecDepth 100000 in
set_option maxHeartbeats 400000 in
theorem readers_any (w : World) : Calls Tryz.prog 113 #[] w fun e w' => e = .returned (.map (some w.heap.size)) ∧ w'.heap[w.heap.size]? = some (.map rdTab 3) ∧ Below w.heap.size w w' := by
  have hmm := @run_makeMap Tryz.prog
  have g0 : (w.alloc (.map #[] 0)).heap[w.heap.size]? = some (.map #[] 0) := heap_alloc_new w _
  have b0 := (Below.refl w.heap.size w).alloc (Nat.le_refl _) (.map #[] 0)
  have r0 := upd_new (P := Tryz.prog) (val := .func (.func 145) #[] #[]) Tryz.underlying188 Tryz.underlying185 g0 (k := 0) rfl
  obtain ⟨w1, hw1⟩ : ∃ z, ({ (w.alloc (.map #[] 0)) with heap := (w.alloc (.map #[] 0)).heap.setIfInBounds w.heap.size (.map ((#[] : Array MapEntry).push { key := .int .i64 0, val := .func (.func 145) #[] #[], born := 0 }) (0 + 1)) } : World) = z := ⟨_, rfl⟩
  have g1 : w1.heap[w.heap.size]? = some (.map #[rdE 0 145 0] 1) := by rw [← hw1]; exact (MapKept.heap_set g0).1
  have b1 : Below w.heap.size w w1 := by rw [← hw1]; exact below_heap b0 (Nat.le_refl _)
  rw [hw1] at r0
  have r1 := upd_new (P := Tryz.prog) (val := .func (.func 146) #[] #[]) Tryz.underlying188 Tryz.underlying185 g1 (k := 1) rfl
  obtain ⟨w2, hw2⟩ : ∃ z, ({ w1 with heap := w1.heap.setIfInBounds w.heap.size (.map ((#[rdE 0 145 0] : Array MapEntry).push { key := .int .i64 1, val := .func (.func 146) #[] #[], born := 1 }) (1 + 1)) } : World) = z := ⟨_, rfl⟩
  have g2 : w2.heap[w.heap.size]? = some (.map #[rdE 0 145 0, rdE 1 146 1] 2) := by rw [← hw2]; exact (MapKept.heap_set g1).1
  have b2 : Below w.heap.size w w2 := by rw [← hw2]; exact below_heap b1 (Nat.le_refl _)
  rw [hw2] at r1
  have r2 := upd_new (P := Tryz.prog) (val := .func (.func 147) #[] #[]) Tryz.underlying188 Tryz.underlying185 g2 (k := 2) rfl
  obtain ⟨w3, hw3⟩ : ∃ z, ({ w2 with heap := w2.heap.setIfInBounds w.heap.size (.map ((#[rdE 0 145 0, rdE 1 146 1] : Array MapEntry).push { key := .int .i64 2, val := .func (.func 147) #[] #[], born := 2 }) (2 + 1)) } : World) = z := ⟨_, rfl⟩
  have g3 : w3.heap[w.heap.size]? = some (.map rdTab 3) := by rw [← hw3]; exact (MapKept.heap_set g2).1
  have b3 : Below w.heap.size w w3 := by rw [← hw3]; exact below_heap b2 (Nat.le_refl _)
  rw [hw3] at r2
  have HG := Lib.hid g3
  have HB := Lib.hid b3
  clear g0 b0 g1 b1 g2 b2 g3 b3 hw1 hw2 hw3
  go_enter Tryz.func113, Tryz.ntmps113
  go_wp2
  go_ret
  exact ⟨rfl, HG.out, HB.out⟩
theorem look_rd {w : World} {M : Nat} (h : w.heap[M]? = some (.map rdTab 3)) :
    (Instr.lookup 188 (.map (some M)) (.int .i64 0) false).run Tryz.prog w = .ok (.func (.func 145) #[] #[]) w ∧
    (Instr.lookup 188 (.map (some M)) (.int .i64 1) false).run Tryz.prog w = .ok (.func (.func 146) #[] #[]) w ∧
    (Instr.lookup 188 (.map (some M)) (.int .i64 2) false).run Tryz.prog w = .ok (.func (.func 147) #[] #[]) w :=
  ⟨look_hit (i := 0) Tryz.underlying188 Tryz.underlying185 h rfl, look_hit (i := 1) Tryz.underlying188 Tryz.underlying185 h rfl, look_hit (i := 2) Tryz.underlying188 Tryz.underlying185 h rfl⟩
end Go.Proofs.YtohljainhkdiiaaGreatDoor
/- What each reader of a state does with a word. -/
namespace Go.Proofs.YtohljainhkdiiaaGreatDoor
open Go.RowKit Pl

def OkR (n : Nat) (r : Rd) : Prop := r.part ≤ 2 ∧ (r.part = 2 → 0 ≤ r.last ∧ r.last < n) ∧ r.next.length = n ∧ (∀ x ∈ r.acc, 0 ≤ x ∧ x < 256) ∧ (∀ x ∈ r.next, -1 ≤ x ∧ x ≤ 9223372036854775807)
theorem OkR.step {acts : List ByteArray} (ha : actsB acts = true) {r r' : Rd} {X : List UInt8} (h : OkR acts.length r) (hs : stepR acts r X = some r') : OkR acts.length r' ∧ r'.acc.length ≤ r.acc.length + 1 := by
  have h8 := ((actsB_iff acts).1 ha).1
  obtain ⟨h1, h2, h3, h4, h5⟩ := h
  unfold stepR at hs
  split at hs
  · split at hs
    · cases hs
      exact ⟨⟨by show (1 : Nat) ≤ 2; omega, fun e => (by cases e), h3, h4, h5⟩, Nat.le_succ _⟩
    · split at hs
      · cases hs
      · rename_i y hy
        cases hs
        have hy2 := ((parse_iff ha _ _).1 hy).1
        have h9 : 2 ^ acts.length ≤ 2 ^ 8 := Nat.pow_le_pow_right (by decide) h8
        refine ⟨⟨by show (0 : Nat) ≤ 2; omega, fun e => (by cases e), h3, fun x hx => ?_, h5⟩, by simp⟩
        rcases List.mem_append.1 hx with hx | hx
        · exact h4 x hx
        · rw [List.mem_singleton] at hx
          omega
  · split at hs
    · split at hs
      · cases hs
      · rename_i hi
        cases hs
        obtain ⟨k, hk⟩ : ∃ k : Nat, Lib.idxOfS acts (mk X) = k := ⟨(Lib.idxOfS acts (mk X)).toNat, by omega⟩
        have h9 := (idx_at acts (mk X) k hk).1
        exact ⟨⟨by show (2 : Nat) ≤ 2; omega, fun _ => ⟨by show 0 ≤ Lib.idxOfS acts (mk X); omega, by show Lib.idxOfS acts (mk X) < _; omega⟩, h3, h4, h5⟩, Nat.le_succ _⟩
    · split at hs
      · cases hs
      · rename_i t ht
        cases hs
        have h9 := numV_range ht
        refine ⟨⟨by show (1 : Nat) ≤ 2; omega, fun e => (by cases e), by simpa using h3, h4, fun x hx => ?_⟩, Nat.le_succ _⟩
        rcases List.mem_or_eq_of_mem_set hx with hx | hx
        · exact h5 x hx
        · omega

/-- a reader in memory, the table of readers behind it -/
structure RdAt (W : World) (B R nb n : Nat) (a : Option Addr) (c : Nat) (r : Rd) (va : Value) : Prop where
  box : Whole W R 187 #[.slice a n c, .int .i64 r.part, .int .i64 r.last, va, .slice (some ⟨nb, 0, none⟩) n n]
  acc : W.ownsRow (R + 2) 3 1 va r.acc.length (r.acc.map (Value.int .i64))
  next : W.ownsRow B 3 1 (.slice (some ⟨nb, 0, none⟩) n n) n (r.next.map (Value.int .i64))
  low : B ≤ nb ∧ nb < R
  tab : W.heap[R + 1]? = some (.map rdTab 3)
theorem RdAt.cell {W : World} {B R nb n : Nat} {a : Option Addr} {c : Nat} {r : Rd} {va : Value} (h : RdAt W B R nb n a c r va) :
    W.cell? ⟨R, 0, none⟩ = some (.slice a n c) ∧ W.cell? ⟨R, 1, none⟩ = some (.int .i64 r.part) ∧ W.cell? ⟨R, 2, none⟩ = some (.int .i64 r.last) ∧ W.cell? ⟨R, 3, none⟩ = some va ∧ W.cell? ⟨R, 4, none⟩ = some (.slice (some ⟨nb, 0, none⟩) n n) :=
  ⟨h.box.cell 0, h.box.cell 1, h.box.cell 2, h.box.cell 3, h.box.cell 4⟩
/-- a world that keeps the blocks below the reader -/
def Low (R nb : Nat) (W W' : World) : Prop := ∀ k, k < R → k ≠ nb → W'.heap[k]? = W.heap[k]?
theorem low_set (R nb : Nat) (W : World) (p : Addr) (hp : R ≤ p.block) (u : Value) : Low R nb W (W.setCell p u) := fun k hk _ => Below.heap_setCell W p u k (by omega)
/-- a field of the reader that is stored -/
theorem RdAt.put {W : World} {B R nb n : Nat} {a : Option Addr} {c : Nat} {r : Rd} {va : Value} (h : RdAt W B R nb n a c r va) {r' : Rd} (k : Nat) (u : Value)
    (hb : (#[Value.slice a n c, .int .i64 r.part, .int .i64 r.last, va, .slice (some ⟨nb, 0, none⟩) n n]).setIfInBounds k u = #[Value.slice a n c, .int .i64 r'.part, .int .i64 r'.last, va, .slice (some ⟨nb, 0, none⟩) n n]) (ha : r'.acc = r.acc) (hn : r'.next = r.next) :
    RdAt (W.setCell ⟨R, k, none⟩ u) B R nb n a c r' va := by
  have hg := grown_self W ⟨R, k, none⟩ u
  refine ⟨by rw [← hb]; exact h.box.set k u, ?_, ?_, h.low, ?_⟩
  · rw [ha]
    exact h.acc.kept hg (.inr fun e => by have := own_ge h.acc _ e; simp only at this; omega)
  · rw [hn]
    exact h.next.kept hg (.inr fun e => by simp only [Value.ownBlock, Option.some.injEq] at e; have := h.low.2; omega)
  · rw [Below.heap_setCell W ⟨R, k, none⟩ u (R + 1) (by simp)]
    exact h.tab

theorem arrow_eq (x : ByteArray) : (x.toList == [45, 62]) = decide (x.data.toList = bArrow) := by
  rw [Bool.eq_iff_iff, beq_iff_eq, decide_eq_true_iff, ByteArray.toList_eq]
  rfl

set_option maxRecDepth 100000 in
set_option maxHeartbeats 2000000 in
theorem readSet_any {w0 W : World} {a : Option Addr} {n c R nb : Nat} {acts : List ByteArray} {r : Rd} {va : Value} (E : Env w0) (A : StrArg w0 a n c acts) (ha : actsB acts = true) (hb : Below w0.heap.size w0 W) (h : RdAt W w0.heap.size R nb n a c r va) (hp : r.part = 0) (hl : r.acc.length ≤ 1000000) (X : ByteArray) (hX : X.size ≤ 9223372036854775807) :
    Calls Tryz.prog 145 #[.pointer (some ⟨R, 0, none⟩), .string X] W fun e W' => Below w0.heap.size w0 W' ∧ Low R nb W W' ∧ ((stepR acts r X.data.toList = none ∧ e = .returned (.bool false)) ∨
      ∃ r' va', stepR acts r X.data.toList = some r' ∧ e = .returned (.bool true) ∧ RdAt W' w0.heap.size R nb n a c r' va') := by
  obtain ⟨i1, hi1, hz10, hz11, hz12⟩ := info_parts infoNumS
  have hR : w0.heap.size ≤ R := by have := h.low; omega
  have HB := Lib.hid hb
  have HH := Lib.hid h
  have hRl := h.box.lt
  obtain ⟨k0, k1, k2, k3, k4⟩ := h.cell
  have f1 := h.box.frozen 1
  by_cases hx : X.data.toList = bArrow
  · have hq : (X.toList == [45, 62]) = true := by rw [arrow_eq]; exact decide_eq_true hx
    have HS : Hid (stepR acts r X.data.toList = some ⟨1, r.last, r.acc, r.next⟩) := Lib.hid (by unfold stepR; rw [if_pos hp, if_pos hx])
    have HF : Hid (RdAt (W.setCell ⟨R, 1, none⟩ (.int .i64 1)) w0.heap.size R nb n a c ⟨1, r.last, r.acc, r.next⟩ va) := Lib.hid (h.put 1 (.int .i64 1) rfl rfl rfl)
    have HB2 := Lib.hid (hb.setCell (p := ⟨R, 1, none⟩) hR (.int .i64 1))
    clear hx h hb E A
    go_enter Tryz.func145, Tryz.ntmps145
    go_wp2
    go_ret
    exact ⟨HB2.out, low_set R nb W ⟨R, 1, none⟩ (Nat.le_refl _) _, .inr ⟨_, _, HS.out, rfl, HF.out⟩⟩
  · have hq : (X.toList == [45, 62]) = false := by rw [arrow_eq]; exact decide_eq_false hx
    obtain ⟨e0, e1, e2, hEr⟩ := (E.below hb).errs
    have hP := Parse_any X hX hEr (A.below hb)
    obtain ⟨y', cd, hpe, hst⟩ : ∃ y' cd : Int, ParseV acts X = .tuple #[.int .i64 y', .int .i64 cd] ∧
        ((cd = 11 ∧ stepR acts r X.data.toList = none) ∨ (cd = 0 ∧ stepR acts r X.data.toList = some ⟨0, r.last, r.acc ++ [y'], r.next⟩)) := by
      unfold ParseV
      rw [ha, if_pos rfl]
      cases hpo : parseO acts X.data.toList with
      | none => exact ⟨0, 11, rfl, .inl ⟨rfl, by unfold stepR; rw [if_pos hp, if_neg hx, hpo]⟩⟩
      | some y => exact ⟨y, 0, rfl, .inr ⟨rfl, by unfold stepR; rw [if_pos hp, if_neg hx, hpo]⟩⟩
    rw [hpe] at hP
    have HP := Lib.hid hP
    have HST := Lib.hid hst
    obtain ⟨aa, ac, rfl⟩ := own_slice' h.acc
    have HPt : Hid (r.part = 0) := Lib.hid hp
    clear hx h hb E A hP hEr hpe hst hp
    go_enter Tryz.func145, Tryz.ntmps145
    go_wp2_with fail
    refine HP.out.mono ?_
    rintro e w2 ⟨rfl, hb2⟩
    have Hb2 := Lib.hid hb2
    have m3 : w2.cell? ⟨R, 3, none⟩ = some (.slice aa r.acc.length ac) := up_cell hb2 k3
    have hown : Hid (∀ o, (w2.alloc o).ownsRow (R + 2) 3 1 (.slice aa r.acc.length ac) r.acc.length (r.acc.map (Value.int .i64))) := Lib.hid fun o => (own_up' HH.out.acc hb2).alloc o
    have hz2 := hb2.size
    have hbx2 := HH.out.box.below hb2 HH.out.box.lt
    have HBX := Lib.hid hbx2
    have hR1 : R + 1 < W.heap.size := (Array.getElem?_eq_some_iff.1 HH.out.tab).1
    have hRa : R + 2 ≤ w2.heap.size + 1 := by omega
    clear hb2 hbx2
    go_wp2_with (at_builtin; (refine wpList_append_sz rfl (.tmp 26) (.tmp 28) 28 rfl (R + 2) 3 i1 (.int .i64 0) 1 8 Tryz.underlying28 hi1 hz10 hz11 hz12 rfl (by decide) (.slice aa r.acc.length ac) rfl r.acc.length (r.acc.map (Value.int .i64)) (hown.out _) (some ⟨w2.heap.size, 0, none⟩) 1 1 rfl [.int .i64 y'] (fun h => by cases h) rfl (one_src _ _ _) (by simp [Value.oneCell']) (by unfold maxLen; omega) (by omega) (by simp; omega) ?_); intro v3 w3 hv3 hg3 hat3; refine Hid.out ?_)
    refine Lib.hid ?_
    obtain ⟨v3a, v3c, rfl⟩ := own_slice' hv3
    have hrow : ∀ q, (Value.slice aa r.acc.length ac).ownBlock = some q → R + 2 ≤ q := own_ge HH.out.acc
    have hbx3 := (HBX.out.alloc (.cells #[.int .i64 y'] 3)).grown hg3 (fun e => by have := hrow R e.symm; omega)
    have n3 := hbx3.cell 3
    have f3 := hbx3.frozen 3
    simp only [List.getElem?_toArray, List.getElem?_cons_succ, List.getElem?_cons_zero] at n3
    have hr3 : w3.ownsRow (R + 2) 3 1 (.slice v3a (r.acc.length + 1) v3c) (r.acc ++ [y']).length ((r.acc ++ [y']).map (Value.int .i64)) := by
      rw [List.length_append, List.map_append]; exact hv3
    have hb03 : Below w0.heap.size w0 w3 := ((HB.out.trans (Hb2.out.mono HB.out.size)).alloc (Nat.le_trans HB.out.size hz2) (.cells #[.int .i64 y'] 3)).grown hg3 (by simp; have := HB.out.size; omega) (fun q hq => by have := hrow q hq; omega)
    have hlow3 : ∀ k, k < W.heap.size → (Value.slice aa r.acc.length ac).ownBlock ≠ some k → w3.heap[k]? = W.heap[k]? := fun k hk hne => by
      rw [hg3.block k (by simp; omega) (fun e => hne e.symm), Below.heap_alloc w2 _ k (by omega)]
      exact Hb2.out.block k hk
    have hbelow := Lib.hid (hb03.setCell (p := ⟨R, 3, none⟩) hR (.slice v3a (r.acc.length + 1) v3c))
    have HF : Hid (RdAt (w3.setCell ⟨R, 3, none⟩ (.slice v3a (r.acc.length + 1) v3c)) w0.heap.size R nb n a c ⟨0, r.last, r.acc ++ [y'], r.next⟩ (.slice v3a (r.acc.length + 1) v3c)) := Lib.hid (by
      have hg := grown_self w3 ⟨R, 3, none⟩ (.slice v3a (r.acc.length + 1) v3c)
      refine ⟨?_, hr3.kept hg (.inr fun e => by have := own_ge hr3 _ e; simp only at this; omega), ?_, HH.out.low, ?_⟩
      · have := hbx3.set 3 (.slice v3a (r.acc.length + 1) v3c)
        rw [HPt.out] at this
        exact this
      · have h1 := ((own_up' HH.out.next Hb2.out).alloc (.cells #[.int .i64 y'] 3)).kept hg3 (.inr fun e => by
          simp only [Value.ownBlock] at e
          have := hrow nb e.symm
          have := HH.out.low.2
          omega)
        exact h1.kept hg (.inr fun e => by simp only [Value.ownBlock, Option.some.injEq] at e; have := HH.out.low.2; omega)
      · rw [Below.heap_setCell w3 ⟨R, 3, none⟩ (.slice v3a (r.acc.length + 1) v3c) (R + 1) (by simp), hlow3 (R + 1) hR1 (fun e => by have := hrow _ e; omega)]
        exact HH.out.tab)
    have HLow : Hid (Low R nb W (w3.setCell ⟨R, 3, none⟩ (.slice v3a (r.acc.length + 1) v3c))) := Lib.hid fun k hk _ => by
      rw [Below.heap_setCell w3 ⟨R, 3, none⟩ (.slice v3a (r.acc.length + 1) v3c) k (by simp; omega)]
      exact hlow3 k (by omega) (fun e => by have := hrow _ e; omega)
    clear hv3 hg3 hat3 hbx3 hr3 hb03 hlow3 hrow
    go_wp2
    go_ret
    refine ⟨hbelow.out, HLow.out, ?_⟩
    rcases HST.out with ⟨h1, h2⟩ | ⟨h1, h2⟩
    · exact .inl ⟨h2, by rw [h1]; rfl⟩
    · exact .inr ⟨_, _, h2, by rw [h1]; rfl, HF.out⟩

set_option maxRecDepth 100000 in
set_option maxHeartbeats 2000000 in
theorem readAction_any {w0 W : World} {a : Option Addr} {n c R nb : Nat} {acts : List ByteArray} {r : Rd} {va : Value} (E : Env w0) (A : StrArg w0 a n c acts) (ha : actsB acts = true) (hb : Below w0.heap.size w0 W) (h : RdAt W w0.heap.size R nb n a c r va) (hp : r.part = 1) (X : ByteArray) :
    Calls Tryz.prog 146 #[.pointer (some ⟨R, 0, none⟩), .string X] W fun e W' => Below w0.heap.size w0 W' ∧ Low R nb W W' ∧ ((stepR acts r X.data.toList = none ∧ e = .returned (.bool false)) ∨
      ∃ r' va', stepR acts r X.data.toList = some r' ∧ e = .returned (.bool true) ∧ RdAt W' w0.heap.size R nb n a c r' va') := by
  have hR : w0.heap.size ≤ R := by have := h.low; omega
  have HB := Lib.hid hb
  have HH := Lib.hid h
  have hRl := h.box.lt
  obtain ⟨k0, k1, k2, k3, k4⟩ := h.cell
  have f1 := h.box.frozen 1
  have f2 := h.box.frozen 2
  obtain ⟨e0, e1, e2, hEr⟩ := (E.below hb).errs
  have hF := Find_any X hEr (A.below hb)
  have hmk : mk X.data.toList = X := mk_of X
  have hs : stepR acts r X.data.toList = if Lib.idxOfS acts X < 0 ∨ Lib.idxOfS acts X ≤ r.last then none else some ⟨2, Lib.idxOfS acts X, r.acc, r.next⟩ := by
    unfold stepR
    rw [if_neg (by omega), if_pos hp, hmk]
  obtain ⟨p, hlast⟩ : ∃ p, p = r.last := ⟨_, rfl⟩
  rw [← hlast] at k2 hs
  have HL := Lib.hid hlast
  by_cases hi : Lib.idxOfS acts X < 0
  · rw [findV_no ha hi] at hF
    have HF := Lib.hid hF
    have HS : Hid (stepR acts r X.data.toList = none) := Lib.hid (by rw [hs, if_pos (.inl hi)])
    clear hi hF hs h hb E A hEr hmk hlast hp
    go_enter Tryz.func146, Tryz.ntmps146
    go_wp2_with fail
    refine HF.out.mono ?_
    rintro e w2 ⟨rfl, rfl⟩
    go_wp2
    go_ret
    exact ⟨HB.out, fun k _ _ => rfl, .inl ⟨HS.out, rfl⟩⟩
  · rw [findV_yes ha (by omega)] at hF
    obtain ⟨Z, HZ⟩ : ∃ Z, Hid (Lib.idxOfS acts X = Z) := ⟨_, Lib.hid rfl⟩
    rw [HZ.out] at hF hs hi
    by_cases hlt : Z ≤ p
    · have HF := Lib.hid hF
      have HS : Hid (stepR acts r X.data.toList = none) := Lib.hid (by rw [hs, if_pos (.inr hlt)])
      clear hi hF hs h hb E A hEr hmk hlast hp
      go_enter Tryz.func146, Tryz.ntmps146
      go_wp2_with fail
      refine HF.out.mono ?_
      rintro e w2 ⟨rfl, rfl⟩
      go_wp2
      go_ret
      exact ⟨HB.out, fun k _ _ => rfl, .inl ⟨HS.out, rfl⟩⟩
    · have HF := Lib.hid hF
      have HS : Hid (stepR acts r X.data.toList = some ⟨2, Z, r.acc, r.next⟩) := Lib.hid (by rw [hs, if_neg (by omega)])
      have h2 := h.put (r' := ⟨r.part, Z, r.acc, r.next⟩) 2 (.int .i64 Z) rfl rfl rfl
      have h3 := h2.put (r' := ⟨2, Z, r.acc, r.next⟩) 1 (.int .i64 2) rfl rfl rfl
      have m1 := h2.cell.2.1
      have g1 := h2.box.frozen 1
      have HFin := Lib.hid h3
      have HB2 := Lib.hid ((hb.setCell (p := ⟨R, 2, none⟩) hR (.int .i64 Z)).setCell (p := ⟨R, 1, none⟩) hR (.int .i64 2))
      have HLow : Hid (Low R nb W ((W.setCell ⟨R, 2, none⟩ (.int .i64 Z)).setCell ⟨R, 1, none⟩ (.int .i64 2))) := Lib.hid fun k hk hne => by
        rw [low_set R nb _ ⟨R, 1, none⟩ (Nat.le_refl _) _ k hk hne, low_set R nb W ⟨R, 2, none⟩ (Nat.le_refl _) _ k hk hne]
      clear hi hF hs h hb E A hEr hmk hlast hp h2 h3
      go_enter Tryz.func146, Tryz.ntmps146
      go_wp2_with fail
      refine HF.out.mono ?_
      rintro e w2 ⟨rfl, rfl⟩
      go_wp2
      go_ret
      exact ⟨HB2.out, HLow.out, .inr ⟨_, _, HS.out, rfl, HFin.out⟩⟩

set_option maxRecDepth 100000 in
set_option maxHeartbeats 4000000 in
theorem readTarget_any {w0 W : World} {a : Option Addr} {n c R nb : Nat} {acts : List ByteArray} {r : Rd} {va : Value} (E : Env w0) (_hn : n ≤ 8) (hb : Below w0.heap.size w0 W) (h : RdAt W w0.heap.size R nb n a c r va) (hp : r.part = 2) (hl : 0 ≤ r.last ∧ r.last < n) (hln : r.next.length = n) (X : ByteArray) (hX : X.size ≤ 1000000) :
    Calls Tryz.prog 147 #[.pointer (some ⟨R, 0, none⟩), .string X] W fun e W' => Below w0.heap.size w0 W' ∧ Low R nb W W' ∧ ((stepR acts r X.data.toList = none ∧ e = .returned (.bool false)) ∨
      ∃ r' va', stepR acts r X.data.toList = some r' ∧ e = .returned (.bool true) ∧ RdAt W' w0.heap.size R nb n a c r' va') := by
  have hR : w0.heap.size ≤ R := by have := h.low; omega
  have HB := Lib.hid hb
  have HH := Lib.hid h
  have hRl := h.box.lt
  obtain ⟨u, hu⟩ : ∃ u : Nat, r.last = (u : Int) := ⟨r.last.toNat, by omega⟩
  have HU := Lib.hid hu
  have hun : u < n := by omega
  have hP := parseNumber_any X (by omega) W (E.below hb)
  obtain ⟨x, ok, hpe, hst⟩ : ∃ (x : Int) (ok : Bool), numT X.data.toList = .tuple #[.int .i64 x, .bool ok] ∧
      ((ok = false ∧ stepR acts r X.data.toList = none) ∨ (ok = true ∧ stepR acts r X.data.toList = some ⟨1, r.last, r.acc, r.next.set u x⟩)) := by
    cases hnv : numV X.data.toList with
    | none => exact ⟨0, false, numT_none hnv, .inl ⟨rfl, by unfold stepR; rw [if_neg (by omega), if_neg (by omega), hnv]⟩⟩
    | some t => exact ⟨t, true, numT_some hnv, .inr ⟨rfl, by unfold stepR; rw [if_neg (by omega), if_neg (by omega), hnv]; show some (Rd.mk 1 r.last r.acc (r.next.set r.last.toNat t)) = _; rw [hu]; rfl⟩⟩
  rw [hpe] at hP
  have HP := Lib.hid hP
  have HST := Lib.hid hst
  have HLn := Lib.hid hln
  have hu0 : (0 : Int) ≤ (u : Int) := by omega
  have hu1 : (u : Int) < (n : Int) := by omega
  clear h hb E hP hpe hst hp hl hln hu
  go_enter Tryz.func147, Tryz.ntmps147
  go_wp2_with fail
  refine HP.out.mono ?_
  rintro e w2 ⟨rfl, hb2⟩
  have h2 : RdAt w2 w0.heap.size R nb n a c r va := ⟨HH.out.box.below hb2 HH.out.box.lt, own_up' HH.out.acc hb2, own_up' HH.out.next hb2, HH.out.low, (hb2.block _ (Array.getElem?_eq_some_iff.1 HH.out.tab).1).trans HH.out.tab⟩
  have hb02 := HB.out.trans (hb2.mono HB.out.size)
  have HB2 := Lib.hid hb02
  have hlow2 : Low R nb W w2 := fun k hk _ => hb2.block k (by omega)
  have HL2 := Lib.hid hlow2
  have h2d := h2
  obtain ⟨k0, k1, k2, k3, k4⟩ := h2d.cell
  rw [HU.out] at k2
  have f1 := h2d.box.frozen 1
  have hst := h2d.next.stored u (.int .i64 x)
  have kn := h2d.next.cellAt u (by omega)
  have fn := h2d.next.frozenAt u
  have hnx : ((r.next.map (Value.int .i64)).set u (.int .i64 x)) = (r.next.set u x).map (Value.int .i64) := by rw [List.map_set]
  rw [hnx] at hst
  have kn' : w2.cell? ⟨nb, u, none⟩ = some (.int .i64 (r.next.getD u 0)) := by
    rw [kn, List.getElem?_map, List.getElem?_eq_getElem (by rw [HLn.out]; exact hun), List.getD_eq_getElem?_getD, List.getElem?_eq_getElem (by rw [HLn.out]; exact hun)]
    rfl
  have h3 : RdAt (w2.setCell ⟨nb, u, none⟩ (.int .i64 x)) w0.heap.size R nb n a c ⟨r.part, r.last, r.acc, r.next.set u x⟩ va := by
    refine ⟨h2d.box.grown hst.2 (fun e => by simp only [Option.some.injEq] at e; have := h2d.low.2; omega), h2d.acc.kept hst.2 (.inr fun e => by have := own_ge h2d.acc _ e; have := h2d.low.2; omega), hst.1, h2d.low, ?_⟩
    rw [Below.heap_setCell w2 ⟨nb, u, none⟩ _ (R + 1) (by simp; have := h2d.low.2; omega)]
    exact h2d.tab
  have m1 := h3.cell.2.1
  have g1 := h3.box.frozen 1
  have h4 := h3.put (r' := ⟨1, r.last, r.acc, r.next.set u x⟩) 1 (.int .i64 1) rfl rfl rfl
  have HF : Hid (RdAt ((w2.setCell ⟨nb, u, none⟩ (.int .i64 x)).setCell ⟨R, 1, none⟩ (.int .i64 1)).drew w0.heap.size R nb n a c ⟨1, r.last, r.acc, r.next.set u x⟩ va) := Lib.hid ⟨h4.box, h4.acc, h4.next, h4.low, h4.tab⟩
  have HB4 := Lib.hid ((hb02.setCell (p := ⟨nb, u, none⟩) h2.low.1 (.int .i64 x)).setCell (p := ⟨R, 1, none⟩) hR (.int .i64 1)).drew
  have HLow : Hid (Low R nb W ((w2.setCell ⟨nb, u, none⟩ (.int .i64 x)).setCell ⟨R, 1, none⟩ (.int .i64 1)).drew) := Lib.hid fun k hk hne => by
    show ((w2.setCell ⟨nb, u, none⟩ (.int .i64 x)).setCell ⟨R, 1, none⟩ (.int .i64 1)).heap[k]? = _
    rw [low_set R nb _ ⟨R, 1, none⟩ (Nat.le_refl _) _ k hk hne, Below.heap_setCell w2 ⟨nb, u, none⟩ _ k (by simpa using hne)]
    exact HL2.out k hk hne
  have hnb : nb ≠ R := by have := h2.low.2; omega
  clear h2 h2d h3 h4 hb2 hb02 hlow2 hst kn hnx
  go_wp2
  go_region
  go_wp2
  go_ret
  refine ⟨HB4.out, HLow.out, ?_⟩
  rcases HST.out with ⟨h1, h2⟩ | ⟨h1, h2⟩
  · exact .inl ⟨h2, by rw [h1]; rfl⟩
  · exact .inr ⟨_, _, h2, by rw [h1]; rfl, HF.out⟩
end Go.Proofs.YtohljainhkdiiaaGreatDoor
/- Contracts of the functions of package strings that package act calls, at this seat's numbers. -/
namespace Go.Proofs
open Go.Shelf
def Tryz.lays212_ren : Go.Shelf.Ren := ⟨fun | 212 => 144 | 263 => 172 | 264 => 173 | n => n, fun | 46 => 174 | 51 => 213 | 146 => 237 | 53 => 215 | 148 => 239 | n => n, fun | n => n⟩
theorem Tryz.lays212 : Go.Proofs.Lays.n212 Tryz.prog Tryz.lays212_ren := {
  mixed := by kernel_rfl
  f212 := Tryz.func144.trans (congrArg some (by kernel_rfl))
  f263 := Tryz.func172.trans (congrArg some (by kernel_rfl))
  f264 := Tryz.func173.trans (congrArg some (by kernel_rfl))
  t46 := Tryz.underlying174
  a46 := Tryz.isAgg174
  z46 := Tryz.sizeOf174
  v46 := Tryz.zeroValue174
  t51 := Tryz.underlying213
  a51 := Tryz.isAgg213
  z51 := Tryz.sizeOf213
  v51 := Tryz.zeroValue213
  t53 := Tryz.underlying215
  a53 := Tryz.isAgg215
  z53 := Tryz.sizeOf215
  v53 := Tryz.zeroValue215
  t146 := Tryz.underlying237
  a146 := Tryz.isAgg237
  z146 := Tryz.sizeOf237
  v146 := Tryz.zeroValue237
  t148 := Tryz.underlying239
  a148 := Tryz.isAgg239
  z148 := Tryz.sizeOf239
  v148 := Tryz.zeroValue239 }
open Go.RowKit Go.Lib in
theorem Tryz.bits_Mul (x y : Nat) (hx : x < 18446744073709551616) (hy : y < 18446744073709551616) (w : World) :
    Calls Tryz.prog 144 #[.int .u64 x, .int .u64 y] w fun e w' => e = .returned (.tuple #[.int .u64 ((x * y / 18446744073709551616 : Nat) : Int), .int .u64 ((x * y % 18446744073709551616 : Nat) : Int)]) ∧ w' = w := Any.bits_Mul Tryz.lays212 x y hx hy w
end Go.Proofs
