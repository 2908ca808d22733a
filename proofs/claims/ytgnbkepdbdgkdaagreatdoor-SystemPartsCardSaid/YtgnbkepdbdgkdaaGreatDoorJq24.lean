/- Texts joined: SpRd, SpRd2, SpPState. -/
import Derived.Test.YtgnbkepdbdgkdaaGreatDoorJq14
import Derived.Test.YtgnbkepdbdgkdaaGreatDoorJq23
import Derived.Test.YtgnbkepdbdgkdaaGreatDoorJq06
import Derived.Test.YtgnbkepdbdgkdaaGreatDoorJq11
import Derived.Test.YtgnbkepdbdgkdaaGreatDoorJq12
import Derived.Test.YtgnbkepdbdgkdaaGreatDoorJq07
import Derived.Maps.Own
import Derived.Laws.OwnMore
import Derived.Test.YtgnbkepdbdgkdaaGreatDoorJq22
import Derived.Deep.RegionHeld3
import Derived.Lib.QuietBelow
/- The readers of a state: the table, and what each reads. -/
namespace Go.Proofs.YtgnbkepdbdgkdaaGreatDoor
open Go.RowKit Pl

/-! ### a table of functions -/
theorem upd_new {P : Program} {w : World} {mty kt et : TypeId} {K : IntKind} {r clock : Nat} {es : Array MapEntry} {k : Int} {val : Value} (hm : P.underlying mty = some (.map kt et)) (hk : P.underlying kt = some (.int K)) (hb : w.heap[r]? = some (.map es clock))
    (hf : Instr.findNow (.int K) (.int K k) es.toList 0 = some none) :
    (Instr.mapUpdate mty (.map (some r)) (.int K k) val).run P w = .ok () { w with heap := w.heap.setIfInBounds r (.map (es.push { key := .int K k, val := val, born := clock }) (clock + 1)) } := by
  have hc : (Instr.checkKey false 10000 kt (.int K k)).run P w = .ok () w := MapKept.run_checkKey (k := .int K k) hk (by simp [MapKept.IsKey]) false 9999
  simp [Instr.mapUpdate, run_underlying hm, MapKept.run_getObj_map hb, hc, MapKept.run_findKey hk hf, MapKept.run_setObj_map _ hb, Result.andThen]
theorem look_hit {P : Program} {w : World} {mty kt et : TypeId} {K : IntKind} {r clock i : Nat} {es : Array MapEntry} {k : Int} {val : Value} (hm : P.underlying mty = some (.map kt et)) (hk : P.underlying kt = some (.int K)) (hb : w.heap[r]? = some (.map es clock))
    (hf : Instr.findNow (.int K) (.int K k) es.toList 0 = some (some (i, val))) : (Instr.lookup mty (.map (some r)) (.int K k) false).run P w = .ok val w := by
  have hc : (Instr.checkKey es.isEmpty 10000 kt (.int K k)).run P w = .ok () w := MapKept.run_checkKey (k := .int K k) hk (by simp [MapKept.IsKey]) _ 9999
  simp [Instr.lookup, run_underlying hm, MapKept.run_getObj_map hb, hc, MapKept.run_findKey hk hf, Result.andThen]
theorem below_heap {B r : Nat} {w0 w : World} {o : Obj} (hb : Below B w0 w) (hr : B ≤ r) : Below B w0 { w with heap := w.heap.setIfInBounds r o } :=
  ⟨hb.os, hb.tape, hb.output, by simpa using hb.size, fun k hk => by
    have := hb.block k hk
    rw [← this]
    show (w.heap.setIfInBounds r o)[k]? = w.heap[k]?
    rw [Array.getElem?_setIfInBounds, if_neg (by omega)]⟩
def rdE (k : Int) (f b : Nat) : MapEntry := { key := .int .i64 k, val := .func (.func f) #[] #[], born := b }
/-- the table of the readers -/
def rdTab : Array MapEntry := #[rdE 0 146 0, rdE 1 147 1, rdE 2 148 2]

set_option maxRecDepth 100000 in
set_option maxHeartbeats 400000 in
theorem readers_any (w : World) : Calls Tryz.prog 112 #[] w fun e w' => e = .returned (.map (some w.heap.size)) ∧ w'.heap[w.heap.size]? = some (.map rdTab 3) ∧ Below w.heap.size w w' := by
  have hmm := @run_makeMap Tryz.prog
  have g0 : (w.alloc (.map #[] 0)).heap[w.heap.size]? = some (.map #[] 0) := heap_alloc_new w _
  have b0 := (Below.refl w.heap.size w).alloc (Nat.le_refl _) (.map #[] 0)
  have r0 := upd_new (P := Tryz.prog) (val := .func (.func 146) #[] #[]) Tryz.underlying196 Tryz.underlying193 g0 (k := 0) rfl
  obtain ⟨w1, hw1⟩ : ∃ z, ({ (w.alloc (.map #[] 0)) with heap := (w.alloc (.map #[] 0)).heap.setIfInBounds w.heap.size (.map ((#[] : Array MapEntry).push { key := .int .i64 0, val := .func (.func 146) #[] #[], born := 0 }) (0 + 1)) } : World) = z := ⟨_, rfl⟩
  have g1 : w1.heap[w.heap.size]? = some (.map #[rdE 0 146 0] 1) := by rw [← hw1]; exact (MapKept.heap_set g0).1
  have b1 : Below w.heap.size w w1 := by rw [← hw1]; exact below_heap b0 (Nat.le_refl _)
  rw [hw1] at r0
  have r1 := upd_new (P := Tryz.prog) (val := .func (.func 147) #[] #[]) Tryz.underlying196 Tryz.underlying193 g1 (k := 1) rfl
  obtain ⟨w2, hw2⟩ : ∃ z, ({ w1 with heap := w1.heap.setIfInBounds w.heap.size (.map ((#[rdE 0 146 0] : Array MapEntry).push { key := .int .i64 1, val := .func (.func 147) #[] #[], born := 1 }) (1 + 1)) } : World) = z := ⟨_, rfl⟩
  have g2 : w2.heap[w.heap.size]? = some (.map #[rdE 0 146 0, rdE 1 147 1] 2) := by rw [← hw2]; exact (MapKept.heap_set g1).1
  have b2 : Below w.heap.size w w2 := by rw [← hw2]; exact below_heap b1 (Nat.le_refl _)
  rw [hw2] at r1
  have r2 := upd_new (P := Tryz.prog) (val := .func (.func 148) #[] #[]) Tryz.underlying196 Tryz.underlying193 g2 (k := 2) rfl
  obtain ⟨w3, hw3⟩ : ∃ z, ({ w2 with heap := w2.heap.setIfInBounds w.heap.size (.map ((#[rdE 0 146 0, rdE 1 147 1] : Array MapEntry).push { key := .int .i64 2, val := .func (.func 148) #[] #[], born := 2 }) (2 + 1)) } : World) = z := ⟨_, rfl⟩
  have g3 : w3.heap[w.heap.size]? = some (.map rdTab 3) := by rw [← hw3]; exact (MapKept.heap_set g2).1
  have b3 : Below w.heap.size w w3 := by rw [← hw3]; exact below_heap b2 (Nat.le_refl _)
  rw [hw3] at r2
  have HG := Lib.hid g3
  have HB := Lib.hid b3
  clear g0 b0 g1 b1 g2 b2 g3 b3 hw1 hw2 hw3
  go_enter Tryz.func112, Tryz.ntmps112
  go_wp2
  go_ret
  exact ⟨rfl, HG.out, HB.out⟩
theorem look_rd {w : World} {M : Nat} (h : w.heap[M]? = some (.map rdTab 3)) :
    (Instr.lookup 196 (.map (some M)) (.int .i64 0) false).run Tryz.prog w = .ok (.func (.func 146) #[] #[]) w ∧
    (Instr.lookup 196 (.map (some M)) (.int .i64 1) false).run Tryz.prog w = .ok (.func (.func 147) #[] #[]) w ∧
    (Instr.lookup 196 (.map (some M)) (.int .i64 2) false).run Tryz.prog w = .ok (.func (.func 148) #[] #[]) w :=
  ⟨look_hit (i := 0) Tryz.underlying196 Tryz.underlying193 h rfl, look_hit (i := 1) Tryz.underlying196 Tryz.underlying193 h rfl, look_hit (i := 2) Tryz.underlying196 Tryz.underlying193 h rfl⟩
end Go.Proofs.YtgnbkepdbdgkdaaGreatDoor
/- What each reader of a state does with a word. -/
namespace Go.Proofs.YtgnbkepdbdgkdaaGreatDoor
open Go.RowKit Pl

def OkR (n : Nat) (r : Rd) : Prop := r.part ≤ 2 ∧ (r.part = 2 → 0 ≤ r.last ∧ r.last < n) ∧ r.next.length = n ∧ (∀ x ∈ r.acc, 0 ≤ x ∧ x < 256) ∧ (∀ x ∈ r.next, -1 ≤ x ∧ x ≤ 9223372036854775807)
theorem OkR.step {acts : List ByteArray} (ha : actsB acts = true) {r r' : Rd} {X : List UInt8} (h : OkR acts.length r) (hs : stepR acts r X = some r') : OkR acts.length r' ∧ r'.acc.length ≤ r.acc.length + 1 := by
  have h8 := ((actsB_iff acts).1 ha).1
  obtain ⟨h1, h2, h3, h4, h5⟩ := h
  unfold stepR at hs
  split at hs
  · split at hs
    · cases hs
      exact ⟨⟨by show (1 : Nat) ≤ 2; omega, fun e => (by cases e), h3, h4, h5⟩, Nat.le_succ _⟩
    · split at hs
      · cases hs
      · rename_i y hy
        cases hs
        have hy2 := ((parse_iff ha _ _).1 hy).1
        have h9 : 2 ^ acts.length ≤ 2 ^ 8 := Nat.pow_le_pow_right (by decide) h8
        refine ⟨⟨by show (0 : Nat) ≤ 2; omega, fun e => (by cases e), h3, fun x hx => ?_, h5⟩, by simp⟩
        rcases List.mem_append.1 hx with hx | hx
        · exact h4 x hx
        · rw [List.mem_singleton] at hx
          omega
  · split at hs
    · split at hs
      · cases hs
      · rename_i hi
        cases hs
        obtain ⟨k, hk⟩ : ∃ k : Nat, Lib.idxOfS acts (mk X) = k := ⟨(Lib.idxOfS acts (mk X)).toNat, by omega⟩
        have h9 := (idx_at acts (mk X) k hk).1
        exact ⟨⟨by show (2 : Nat) ≤ 2; omega, fun _ => ⟨by show 0 ≤ Lib.idxOfS acts (mk X); omega, by show Lib.idxOfS acts (mk X) < _; omega⟩, h3, h4, h5⟩, Nat.le_succ _⟩
    · split at hs
      · cases hs
      · rename_i t ht
        cases hs
        have h9 := numV_range ht
        refine ⟨⟨by show (1 : Nat) ≤ 2; omega, fun e => (by cases e), by simpa using h3, h4, fun x hx => ?_⟩, Nat.le_succ _⟩
        rcases List.mem_or_eq_of_mem_set hx with hx | hx
        · exact h5 x hx
        · omega

/-- a reader in memory, the table of readers behind it -/
structure RdAt (W : World) (B R nb n : Nat) (a : Option Addr) (c : Nat) (r : Rd) (va : Value) : Prop where
  box : Whole W R 195 #[.slice a n c, .int .i64 r.part, .int .i64 r.last, va, .slice (some ⟨nb, 0, none⟩) n n]
  acc : W.ownsRow (R + 2) 3 1 va r.acc.length (r.acc.map (Value.int .i64))
  next : W.ownsRow B 3 1 (.slice (some ⟨nb, 0, none⟩) n n) n (r.next.map (Value.int .i64))
  low : B ≤ nb ∧ nb < R
  tab : W.heap[R + 1]? = some (.map rdTab 3)
theorem RdAt.cell {W : World} {B R nb n : Nat} {a : Option Addr} {c : Nat} {r : Rd} {va : Value} (h : RdAt W B R nb n a c r va) :
    W.cell? ⟨R, 0, none⟩ = some (.slice a n c) ∧ W.cell? ⟨R, 1, none⟩ = some (.int .i64 r.part) ∧ W.cell? ⟨R, 2, none⟩ = some (.int .i64 r.last) ∧ W.cell? ⟨R, 3, none⟩ = some va ∧ W.cell? ⟨R, 4, none⟩ = some (.slice (some ⟨nb, 0, none⟩) n n) :=
  ⟨h.box.cell 0, h.box.cell 1, h.box.cell 2, h.box.cell 3, h.box.cell 4⟩
/-- a world that keeps the blocks below the reader -/
def Low (R nb : Nat) (W W' : World) : Prop := ∀ k, k < R → k ≠ nb → W'.heap[k]? = W.heap[k]?
theorem low_set (R nb : Nat) (W : World) (p : Addr) (hp : R ≤ p.block) (u : Value) : Low R nb W (W.setCell p u) := fun k hk _ => Below.heap_setCell W p u k (by omega)
/-- a field of the reader that is stored -/
theorem RdAt.put {W : World} {B R nb n : Nat} {a : Option Addr} {c : Nat} {r : Rd} {va : Value} (h : RdAt W B R nb n a c r va) {r' : Rd} (k : Nat) (u : Value)
    (hb : (#[Value.slice a n c, .int .i64 r.part, .int .i64 r.last, va, .slice (some ⟨nb, 0, none⟩) n n]).setIfInBounds k u = #[Value.slice a n c, .int .i64 r'.part, .int .i64 r'.last, va, .slice (some ⟨nb, 0, none⟩) n n]) (ha : r'.acc = r.acc) (hn : r'.next = r.next) :
    RdAt (W.setCell ⟨R, k, none⟩ u) B R nb n a c r' va := by
  have hg := grown_self W ⟨R, k, none⟩ u
  refine ⟨by rw [← hb]; exact h.box.set k u, ?_, ?_, h.low, ?_⟩
  · rw [ha]
    exact h.acc.kept hg (.inr fun e => by have := own_ge h.acc _ e; simp only at this; omega)
  · rw [hn]
    exact h.next.kept hg (.inr fun e => by simp only [Value.ownBlock, Option.some.injEq] at e; have := h.low.2; omega)
  · rw [Below.heap_setCell W ⟨R, k, none⟩ u (R + 1) (by simp)]
    exact h.tab

theorem arrow_eq (x : ByteArray) : (x.toList == [45, 62]) = decide (x.data.toList = bArrow) := by
  rw [Bool.eq_iff_iff, beq_iff_eq, decide_eq_true_iff, ByteArray.toList_eq]
  rfl

set_option maxRecDepth 100000 in
set_option maxHeartbeats 2000000 in
theorem readSet_any {w0 W : World} {a : Option Addr} {n c R nb : Nat} {acts : List ByteArray} {r : Rd} {va : Value} (E : Env w0) (A : StrArg w0 a n c acts) (ha : actsB acts = true) (hb : Below w0.heap.size w0 W) (h : RdAt W w0.heap.size R nb n a c r va) (hp : r.part = 0) (hl : r.acc.length ≤ 1000000) (X : ByteArray) (hX : X.size ≤ 9223372036854775807) :
    Calls Tryz.prog 146 #[.pointer (some ⟨R, 0, none⟩), .string X] W fun e W' => Below w0.heap.size w0 W' ∧ Low R nb W W' ∧ ((stepR acts r X.data.toList = none ∧ e = .returned (.bool false)) ∨
      ∃ r' va', stepR acts r X.data.toList = some r' ∧ e = .returned (.bool true) ∧ RdAt W' w0.heap.size R nb n a c r' va') := by
  obtain ⟨i1, hi1, hz10, hz11, hz12⟩ := info_parts infoNumS
  have hR : w0.heap.size ≤ R := by have := h.low; omega
  have HB := Lib.hid hb
  have HH := Lib.hid h
  have hRl := h.box.lt
  obtain ⟨k0, k1, k2, k3, k4⟩ := h.cell
  have f1 := h.box.frozen 1
  by_cases hx : X.data.toList = bArrow
  · have hq : (X.toList == [45, 62]) = true := by rw [arrow_eq]; exact decide_eq_true hx
    have HS : Hid (stepR acts r X.data.toList = some ⟨1, r.last, r.acc, r.next⟩) := Lib.hid (by unfold stepR; rw [if_pos hp, if_pos hx])
    have HF : Hid (RdAt (W.setCell ⟨R, 1, none⟩ (.int .i64 1)) w0.heap.size R nb n a c ⟨1, r.last, r.acc, r.next⟩ va) := Lib.hid (h.put 1 (.int .i64 1) rfl rfl rfl)
    have HB2 := Lib.hid (hb.setCell (p := ⟨R, 1, none⟩) hR (.int .i64 1))
    clear hx h hb E A
    go_enter Tryz.func146, Tryz.ntmps146
    go_wp2
    go_ret
    exact ⟨HB2.out, low_set R nb W ⟨R, 1, none⟩ (Nat.le_refl _) _, .inr ⟨_, _, HS.out, rfl, HF.out⟩⟩
  · have hq : (X.toList == [45, 62]) = false := by rw [arrow_eq]; exact decide_eq_false hx
    obtain ⟨e0, e1, e2, hEr⟩ := (E.below hb).errs
    have hP := Parse_any X hX hEr (A.below hb)
    obtain ⟨y', cd, hpe, hst⟩ : ∃ y' cd : Int, ParseV acts X = .tuple #[.int .i64 y', .int .i64 cd] ∧
        ((cd = 11 ∧ stepR acts r X.data.toList = none) ∨ (cd = 0 ∧ stepR acts r X.data.toList = some ⟨0, r.last, r.acc ++ [y'], r.next⟩)) := by
      unfold ParseV
      rw [ha, if_pos rfl]
      cases hpo : parseO acts X.data.toList with
      | none => exact ⟨0, 11, rfl, .inl ⟨rfl, by unfold stepR; rw [if_pos hp, if_neg hx, hpo]⟩⟩
      | some y => exact ⟨y, 0, rfl, .inr ⟨rfl, by unfold stepR; rw [if_pos hp, if_neg hx, hpo]⟩⟩
    rw [hpe] at hP
    have HP := Lib.hid hP
    have HST := Lib.hid hst
    obtain ⟨aa, ac, rfl⟩ := own_slice' h.acc
    have HPt : Hid (r.part = 0) := Lib.hid hp
    clear hx h hb E A hP hEr hpe hst hp
    go_enter Tryz.func146, Tryz.ntmps146
    go_wp2_with fail
    refine HP.out.mono ?_
    rintro e w2 ⟨rfl, hb2⟩
    have Hb2 := Lib.hid hb2
    have m3 : w2.cell? ⟨R, 3, none⟩ = some (.slice aa r.acc.length ac) := up_cell hb2 k3
    have hown : Hid (∀ o, (w2.alloc o).ownsRow (R + 2) 3 1 (.slice aa r.acc.length ac) r.acc.length (r.acc.map (Value.int .i64))) := Lib.hid fun o => (own_up' HH.out.acc hb2).alloc o
    have hz2 := hb2.size
    have hbx2 := HH.out.box.below hb2 HH.out.box.lt
    have HBX := Lib.hid hbx2
    have hR1 : R + 1 < W.heap.size := (Array.getElem?_eq_some_iff.1 HH.out.tab).1
    have hRa : R + 2 ≤ w2.heap.size + 1 := by omega
    clear hb2 hbx2
    go_wp2_with (at_builtin; (refine wpList_append_sz rfl (.tmp 26) (.tmp 28) 28 rfl (R + 2) 3 i1 (.int .i64 0) 1 8 Tryz.underlying28 hi1 hz10 hz11 hz12 rfl (by decide) (.slice aa r.acc.length ac) rfl r.acc.length (r.acc.map (Value.int .i64)) (hown.out _) (some ⟨w2.heap.size, 0, none⟩) 1 1 rfl [.int .i64 y'] (fun h => by cases h) rfl (one_src _ _ _) (by simp [Value.oneCell']) (by unfold maxLen; omega) (by omega) (by simp; omega) ?_); intro v3 w3 hv3 hg3 hat3; refine Hid.out ?_)
    refine Lib.hid ?_
    obtain ⟨v3a, v3c, rfl⟩ := own_slice' hv3
    have hrow : ∀ q, (Value.slice aa r.acc.length ac).ownBlock = some q → R + 2 ≤ q := own_ge HH.out.acc
    have hbx3 := (HBX.out.alloc (.cells #[.int .i64 y'] 3)).grown hg3 (fun e => by have := hrow R e.symm; omega)
    have n3 := hbx3.cell 3
    have f3 := hbx3.frozen 3
    simp only [List.getElem?_toArray, List.getElem?_cons_succ, List.getElem?_cons_zero] at n3
    have hr3 : w3.ownsRow (R + 2) 3 1 (.slice v3a (r.acc.length + 1) v3c) (r.acc ++ [y']).length ((r.acc ++ [y']).map (Value.int .i64)) := by
      rw [List.length_append, List.map_append]; exact hv3
    have hb03 : Below w0.heap.size w0 w3 := ((HB.out.trans (Hb2.out.mono HB.out.size)).alloc (Nat.le_trans HB.out.size hz2) (.cells #[.int .i64 y'] 3)).grown hg3 (by simp; have := HB.out.size; omega) (fun q hq => by have := hrow q hq; omega)
    have hlow3 : ∀ k, k < W.heap.size → (Value.slice aa r.acc.length ac).ownBlock ≠ some k → w3.heap[k]? = W.heap[k]? := fun k hk hne => by
      rw [hg3.block k (by simp; omega) (fun e => hne e.symm), Below.heap_alloc w2 _ k (by omega)]
      exact Hb2.out.block k hk
    have hbelow := Lib.hid (hb03.setCell (p := ⟨R, 3, none⟩) hR (.slice v3a (r.acc.length + 1) v3c))
    have HF : Hid (RdAt (w3.setCell ⟨R, 3, none⟩ (.slice v3a (r.acc.length + 1) v3c)) w0.heap.size R nb n a c ⟨0, r.last, r.acc ++ [y'], r.next⟩ (.slice v3a (r.acc.length + 1) v3c)) := Lib.hid (by
      have hg := grown_self w3 ⟨R, 3, none⟩ (.slice v3a (r.acc.length + 1) v3c)
      refine ⟨?_, hr3.kept hg (.inr fun e => by have := own_ge hr3 _ e; simp only at this; omega), ?_, HH.out.low, ?_⟩
      · have := hbx3.set 3 (.slice v3a (r.acc.length + 1) v3c)
        rw [HPt.out] at this
        exact this
      · have h1 := ((own_up' HH.out.next Hb2.out).alloc (.cells #[.int .i64 y'] 3)).kept hg3 (.inr fun e => by
          simp only [Value.ownBlock] at e
          have := hrow nb e.symm
          have := HH.out.low.2
          omega)
        exact h1.kept hg (.inr fun e => by simp only [Value.ownBlock, Option.some.injEq] at e; have := HH.out.low.2; omega)
      · rw [Below.heap_setCell w3 ⟨R, 3, none⟩ (.slice v3a (r.acc.length + 1) v3c) (R + 1) (by simp), hlow3 (R + 1) hR1 (fun e => by have := hrow _ e; omega)]
        exact HH.out.tab)
    have HLow : Hid (Low R nb W (w3.setCell ⟨R, 3, none⟩ (.slice v3a (r.acc.length + 1) v3c))) := Lib.hid fun k hk _ => by
      rw [Below.heap_setCell w3 ⟨R, 3, none⟩ (.slice v3a (r.acc.length + 1) v3c) k (by simp; omega)]
      exact hlow3 k (by omega) (fun e => by have := hrow _ e; omega)
    clear hv3 hg3 hat3 hbx3 hr3 hb03 hlow3 hrow
    go_wp2
    go_ret
    refine ⟨hbelow.out, HLow.out, ?_⟩
    rcases HST.out with ⟨h1, h2⟩ | ⟨h1, h2⟩
    · exact .inl ⟨h2, by rw [h1]; rfl⟩
    · exact .inr ⟨_, _, h2, by rw [h1]; rfl, HF.out⟩

set_option maxRecDepth 100000 in
set_option maxHeartbeats 2000000 in
theorem readAction_any {w0 W : World} {a : Option Addr} {n c R nb : Nat} {acts : List ByteArray} {r : Rd} {va : Value} (E : Env w0) (A : StrArg w0 a n c acts) (ha : actsB acts = true) (hb : Below w0.heap.size w0 W) (h : RdAt W w0.heap.size R nb n a c r va) (hp : r.part = 1) (X : ByteArray) :
    Calls Tryz.prog 147 #[.pointer (some ⟨R, 0, none⟩), .string X] W fun e W' => Below w0.heap.size w0 W' ∧ Low R nb W W' ∧ ((stepR acts r X.data.toList = none ∧ e = .returned (.bool false)) ∨
      ∃ r' va', stepR acts r X.data.toList = some r' ∧ e = .returned (.bool true) ∧ RdAt W' w0.heap.size R nb n a c r' va') := by
  have hR : w0.heap.size ≤ R := by have := h.low; omega
  have HB := Lib.hid hb
  have HH := Lib.hid h
  have hRl := h.box.lt
  obtain ⟨k0, k1, k2, k3, k4⟩ := h.cell
  have f1 := h.box.frozen 1
  have f2 := h.box.frozen 2
  obtain ⟨e0, e1, e2, hEr⟩ := (E.below hb).errs
  have hF := Find_any X hEr (A.below hb)
  have hmk : mk X.data.toList = X := mk_of X
  have hs : stepR acts r X.data.toList = if Lib.idxOfS acts X < 0 ∨ Lib.idxOfS acts X ≤ r.last then none else some ⟨2, Lib.idxOfS acts X, r.acc, r.next⟩ := by
    unfold stepR
    rw [if_neg (by omega), if_pos hp, hmk]
  obtain ⟨p, hlast⟩ : ∃ p, p = r.last := ⟨_, rfl⟩
  rw [← hlast] at k2 hs
  have HL := Lib.hid hlast
  by_cases hi : Lib.idxOfS acts X < 0
  · rw [findV_no ha hi] at hF
    have HF := Lib.hid hF
    have HS : Hid (stepR acts r X.data.toList = none) := Lib.hid (by rw [hs, if_pos (.inl hi)])
    clear hi hF hs h hb E A hEr hmk hlast hp
    go_enter Tryz.func147, Tryz.ntmps147
    go_wp2_with fail
    refine HF.out.mono ?_
    rintro e w2 ⟨rfl, rfl⟩
    go_wp2
    go_ret
    exact ⟨HB.out, fun k _ _ => rfl, .inl ⟨HS.out, rfl⟩⟩
  · rw [findV_yes ha (by omega)] at hF
    obtain ⟨Z, HZ⟩ : ∃ Z, Hid (Lib.idxOfS acts X = Z) := ⟨_, Lib.hid rfl⟩
    rw [HZ.out] at hF hs hi
    by_cases hlt : Z ≤ p
    · have HF := Lib.hid hF
      have HS : Hid (stepR acts r X.data.toList = none) := Lib.hid (by rw [hs, if_pos (.inr hlt)])
      clear hi hF hs h hb E A hEr hmk hlast hp
      go_enter Tryz.func147, Tryz.ntmps147
      go_wp2_with fail
      refine HF.out.mono ?_
      rintro e w2 ⟨rfl, rfl⟩
      go_wp2
      go_ret
      exact ⟨HB.out, fun k _ _ => rfl, .inl ⟨HS.out, rfl⟩⟩
    · have HF := Lib.hid hF
      have HS : Hid (stepR acts r X.data.toList = some ⟨2, Z, r.acc, r.next⟩) := Lib.hid (by rw [hs, if_neg (by omega)])
      have h2 := h.put (r' := ⟨r.part, Z, r.acc, r.next⟩) 2 (.int .i64 Z) rfl rfl rfl
      have h3 := h2.put (r' := ⟨2, Z, r.acc, r.next⟩) 1 (.int .i64 2) rfl rfl rfl
      have m1 := h2.cell.2.1
      have g1 := h2.box.frozen 1
      have HFin := Lib.hid h3
      have HB2 := Lib.hid ((hb.setCell (p := ⟨R, 2, none⟩) hR (.int .i64 Z)).setCell (p := ⟨R, 1, none⟩) hR (.int .i64 2))
      have HLow : Hid (Low R nb W ((W.setCell ⟨R, 2, none⟩ (.int .i64 Z)).setCell ⟨R, 1, none⟩ (.int .i64 2))) := Lib.hid fun k hk hne => by
        rw [low_set R nb _ ⟨R, 1, none⟩ (Nat.le_refl _) _ k hk hne, low_set R nb W ⟨R, 2, none⟩ (Nat.le_refl _) _ k hk hne]
      clear hi hF hs h hb E A hEr hmk hlast hp h2 h3
      go_enter Tryz.func147, Tryz.ntmps147
      go_wp2_with fail
      refine HF.out.mono ?_
      rintro e w2 ⟨rfl, rfl⟩
      go_wp2
      go_ret
      exact ⟨HB2.out, HLow.out, .inr ⟨_, _, HS.out, rfl, HFin.out⟩⟩

set_option maxRecDepth 100000 in
set_option maxHeartbeats 4000000 in
theorem readTarget_any {w0 W : World} {a : Option Addr} {n c R nb : Nat} {acts : List ByteArray} {r : Rd} {va : Value} (E : Env w0) (_hn : n ≤ 8) (hb : Below w0.heap.size w0 W) (h : RdAt W w0.heap.size R nb n a c r va) (hp : r.part = 2) (hl : 0 ≤ r.last ∧ r.last < n) (hln : r.next.length = n) (X : ByteArray) (hX : X.size ≤ 1000000) :
    Calls Tryz.prog 148 #[.pointer (some ⟨R, 0, none⟩), .string X] W fun e W' => Below w0.heap.size w0 W' ∧ Low R nb W W' ∧ ((stepR acts r X.data.toList = none ∧ e = .returned (.bool false)) ∨
      ∃ r' va', stepR acts r X.data.toList = some r' ∧ e = .returned (.bool true) ∧ RdAt W' w0.heap.size R nb n a c r' va') := by
  have hR : w0.heap.size ≤ R := by have := h.low; omega
  have HB := Lib.hid hb
  have HH := Lib.hid h
  have hRl := h.box.lt
  obtain ⟨u, hu⟩ : ∃ u : Nat, r.last = (u : Int) := ⟨r.last.toNat, by omega⟩
  have HU := Lib.hid hu
  have hun : u < n := by omega
  have hP := parseNumber_any X (by omega) W (E.below hb)
  obtain ⟨x, ok, hpe, hst⟩ : ∃ (x : Int) (ok : Bool), numT X.data.toList = .tuple #[.int .i64 x, .bool ok] ∧
      ((ok = false ∧ stepR acts r X.data.toList = none) ∨ (ok = true ∧ stepR acts r X.data.toList = some ⟨1, r.last, r.acc, r.next.set u x⟩)) := by
    cases hnv : numV X.data.toList with
    | none => exact ⟨0, false, numT_none hnv, .inl ⟨rfl, by unfold stepR; rw [if_neg (by omega), if_neg (by omega), hnv]⟩⟩
    | some t => exact ⟨t, true, numT_some hnv, .inr ⟨rfl, by unfold stepR; rw [if_neg (by omega), if_neg (by omega), hnv]; show some (Rd.mk 1 r.last r.acc (r.next.set r.last.toNat t)) = _; rw [hu]; rfl⟩⟩
  rw [hpe] at hP
  have HP := Lib.hid hP
  have HST := Lib.hid hst
  have HLn := Lib.hid hln
  have hu0 : (0 : Int) ≤ (u : Int) := by omega
  have hu1 : (u : Int) < (n : Int) := by omega
  clear h hb E hP hpe hst hp hl hln hu
  go_enter Tryz.func148, Tryz.ntmps148
  go_wp2_with fail
  refine HP.out.mono ?_
  rintro e w2 ⟨rfl, hb2⟩
  have h2 : RdAt w2 w0.heap.size R nb n a c r va := ⟨HH.out.box.below hb2 HH.out.box.lt, own_up' HH.out.acc hb2, own_up' HH.out.next hb2, HH.out.low, (hb2.block _ (Array.getElem?_eq_some_iff.1 HH.out.tab).1).trans HH.out.tab⟩
  have hb02 := HB.out.trans (hb2.mono HB.out.size)
  have HB2 := Lib.hid hb02
  have hlow2 : Low R nb W w2 := fun k hk _ => hb2.block k (by omega)
  have HL2 := Lib.hid hlow2
  have h2d := h2
  obtain ⟨k0, k1, k2, k3, k4⟩ := h2d.cell
  rw [HU.out] at k2
  have f1 := h2d.box.frozen 1
  have hst := h2d.next.stored u (.int .i64 x)
  have kn := h2d.next.cellAt u (by omega)
  have fn := h2d.next.frozenAt u
  have hnx : ((r.next.map (Value.int .i64)).set u (.int .i64 x)) = (r.next.set u x).map (Value.int .i64) := by rw [List.map_set]
  rw [hnx] at hst
  have kn' : w2.cell? ⟨nb, u, none⟩ = some (.int .i64 (r.next.getD u 0)) := by
    rw [kn, List.getElem?_map, List.getElem?_eq_getElem (by rw [HLn.out]; exact hun), List.getD_eq_getElem?_getD, List.getElem?_eq_getElem (by rw [HLn.out]; exact hun)]
    rfl
  have h3 : RdAt (w2.setCell ⟨nb, u, none⟩ (.int .i64 x)) w0.heap.size R nb n a c ⟨r.part, r.last, r.acc, r.next.set u x⟩ va := by
    refine ⟨h2d.box.grown hst.2 (fun e => by simp only [Option.some.injEq] at e; have := h2d.low.2; omega), h2d.acc.kept hst.2 (.inr fun e => by have := own_ge h2d.acc _ e; have := h2d.low.2; omega), hst.1, h2d.low, ?_⟩
    rw [Below.heap_setCell w2 ⟨nb, u, none⟩ _ (R + 1) (by simp; have := h2d.low.2; omega)]
    exact h2d.tab
  have m1 := h3.cell.2.1
  have g1 := h3.box.frozen 1
  have h4 := h3.put (r' := ⟨1, r.last, r.acc, r.next.set u x⟩) 1 (.int .i64 1) rfl rfl rfl
  have HF : Hid (RdAt ((w2.setCell ⟨nb, u, none⟩ (.int .i64 x)).setCell ⟨R, 1, none⟩ (.int .i64 1)).drew w0.heap.size R nb n a c ⟨1, r.last, r.acc, r.next.set u x⟩ va) := Lib.hid ⟨h4.box, h4.acc, h4.next, h4.low, h4.tab⟩
  have HB4 := Lib.hid ((hb02.setCell (p := ⟨nb, u, none⟩) h2.low.1 (.int .i64 x)).setCell (p := ⟨R, 1, none⟩) hR (.int .i64 1)).drew
  have HLow : Hid (Low R nb W ((w2.setCell ⟨nb, u, none⟩ (.int .i64 x)).setCell ⟨R, 1, none⟩ (.int .i64 1)).drew) := Lib.hid fun k hk hne => by
    show ((w2.setCell ⟨nb, u, none⟩ (.int .i64 x)).setCell ⟨R, 1, none⟩ (.int .i64 1)).heap[k]? = _
    rw [low_set R nb _ ⟨R, 1, none⟩ (Nat.le_refl _) _ k hk hne, Below.heap_setCell w2 ⟨nb, u, none⟩ _ k (by simpa using hne)]
    exact HL2.out k hk hne
  have hnb : nb ≠ R := by have := h2.low.2; omega
  clear h2 h2d h3 h4 hb2 hb02 hlow2 hst kn hnx
  go_wp2
  go_region
  go_wp2
  go_ret
  refine ⟨HB4.out, HLow.out, ?_⟩
  rcases HST.out with ⟨h1, h2⟩ | ⟨h1, h2⟩
  · exact .inl ⟨h2, by rw [h1]; rfl⟩
  · exact .inr ⟨_, _, h2, by rw [h1]; rfl, HF.out⟩
end Go.Proofs.YtgnbkepdbdgkdaaGreatDoor
/- spec.parseState. -/
namespace Go.Proofs.YtgnbkepdbdgkdaaGreatDoor
open Go.RowKit Pl

theorem foldR_next {acts : List ByteArray} {r : List (List UInt8)} {x : Nat} {q : Rd} (h : foldR acts (some (rd0 acts)) (r.take x) = some q) (hx : x < r.length) : foldR acts (some (rd0 acts)) (r.take (x + 1)) = stepR acts q (r.getD x []) := by
  rw [take_next r x [] hx, foldR_app, h]
  rfl
theorem foldR_stop {acts : List ByteArray} {r : List (List UInt8)} {x : Nat} (h : foldR acts (some (rd0 acts)) (r.take x) = none) : steO acts r = none := by
  unfold steO
  rw [← List.take_append_drop x r, foldR_app, h, foldR_none]
  rfl
theorem fits_small {l : List Int} (h : ∀ x ∈ l, -1 ≤ x ∧ x ≤ 9223372036854775807) (hl : l.length ≤ 17592186044416) : Fits l := ⟨hl, fun j hj => by
  have := h (l.getD j 0) (by rw [List.getD_eq_getElem?_getD, List.getElem?_eq_getElem hj]; exact List.getElem_mem hj)
  omega⟩

set_option maxRecDepth 100000 in
set_option maxHeartbeats 8000000 in
theorem spParseState_any {w : World} {a : Option Addr} {n c : Nat} {acts : List ByteArray} {a2 : Option Addr} {N c2 : Nat} {r : List (List UInt8)} (E : Env w) (A : StrArg w a n c acts) (B : StrArg w a2 N c2 (r.map mk)) (hact : actsB acts = true) (hr : r.length ≤ 1000000) (hsz : ∀ x ∈ r, x.length ≤ 1000000) :
    Calls Tryz.prog 76 #[.slice a n c, .slice a2 N c2] w fun e w' => Below w.heap.size w w' ∧
      ((steO acts r = none ∧ ∃ pa pn pc qa qn qc, e = .returned (.tuple #[.agg #[.slice pa pn pc, .slice qa qn qc], .bool false])) ∨
        ∃ t p q, steO acts r = some t ∧ e = .returned (.tuple #[.agg #[p, q], .bool true]) ∧ NumO w' w.heap.size p t.1 ∧ NumO w' w.heap.size q t.2 ∧ Fits t.1 ∧ Fits t.2) := by
  have HE := Lib.hid E
  have HA := Lib.hid A
  have HBs := Lib.hid B
  have HACT := Lib.hid hact
  have HSz := Lib.hid hsz
  have HR2 : Hid (N = r.length) := Lib.hid (by have := B.len; rwa [List.length_map] at this)
  have h8 : n ≤ 8 := by have := ((actsB_iff acts).1 hact).1; have := A.len; omega
  have HNl : Hid (acts.length = n) := Lib.hid A.len.symm
  have hN2 : N ≤ 1000000 := by have := HR2.out; omega
  -- the row of one number, and what Repeat makes of it
  have hb0 := ((Below.refl w.heap.size w).alloc (Nat.le_refl _) (.cells #[.slice none 0 0, .slice none 0 0] 119)).alloc (by simp) (.cells #[.int .i64 (-1)] 3)
  have hc0 : ((w.alloc (.cells #[.slice none 0 0, .slice none 0 0] 119)).alloc (.cells #[.int .i64 (-1)] 3)).cell? ⟨w.heap.size + 1, 0, none⟩ = some (.int .i64 (-1)) := by
    have := (Whole.new (w.alloc (.cells #[.slice none 0 0, .slice none 0 0] 119)) 3 #[.int .i64 (-1)]).cell 0
    rw [World.size_alloc] at this
    exact this
  have hw0 := (Whole.new w 119 #[.slice none 0 0, .slice none 0 0]).alloc (.cells #[.int .i64 (-1)] 3)
  have HRep := Repeat_any (c := 1) (n := n) (by omega) hc0
  obtain ⟨w1, HW1⟩ : ∃ z, Hid ((w.alloc (.cells #[.slice none 0 0, .slice none 0 0] 119)).alloc (.cells #[.int .i64 (-1)] 3) = z) := ⟨_, Lib.hid rfl⟩
  have hz1 : w1.heap.size = w.heap.size + 2 := by rw [← HW1.out]; simp
  rw [HW1.out] at hb0 hw0 HRep
  have HRep := Lib.hid HRep
  have HB0 := Lib.hid hb0
  have HWr0 := Lib.hid hw0
  have HZ1 := Lib.hid hz1
  clear E A B hact hsz hr hb0 hc0 hw0 hz1
  go_enter Tryz.func76, Tryz.ntmps76
  go_wp2_with fail
  rw [HW1.out]
  refine HRep.out.mono ?_
  rintro e w2 ⟨rfl, hrow, hb2⟩
  have HRow := Lib.hid hrow
  have hz2 : w1.heap.size < w2.heap.size := (hrow.lt _ rfl).2
  have HB2 := Lib.hid (HB0.out.trans (hb2.mono HB0.out.size))
  have HWr2 := Lib.hid (HWr0.out.below hb2 HWr0.out.lt)
  clear hrow hb2
  obtain ⟨nb, HNB⟩ : ∃ z, Hid (w1.heap.size = z) := ⟨_, Lib.hid rfl⟩
  rw [HNB.out] at HRow hz2
  rw [HNB.out]
  have hnb : w.heap.size < nb := by rw [← HNB.out, HZ1.out]; omega
  have hbox := Whole.new w2 195 #[.slice a n c, .int .i64 0, .int .i64 (-1), .slice none 0 0, .slice (some ⟨nb, 0, none⟩) n n]
  have hb3 := (Below.refl w2.heap.size w2).alloc (Nat.le_refl _) (.cells #[.slice a n c, .int .i64 0, .int .i64 (-1), .slice none 0 0, .slice (some ⟨nb, 0, none⟩) n n] 195)
  obtain ⟨w3, HW3⟩ : ∃ z, Hid (w2.alloc (.cells #[.slice a n c, .int .i64 0, .int .i64 (-1), .slice none 0 0, .slice (some ⟨nb, 0, none⟩) n n] 195) = z) := ⟨_, Lib.hid rfl⟩
  rw [HW3.out] at hbox hb3
  have hz3 : w3.heap.size = w2.heap.size + 1 := by rw [← HW3.out]; simp
  have HRd := Lib.hid (readers_any w3)
  rw [hz3] at HRd
  have HBx := Lib.hid hbox
  have HB3 := Lib.hid hb3
  have HZ3 := Lib.hid hz3
  clear hbox hb3 hz3
  go_wp2_with fail
  rw [HW3.out]
  refine HRd.out.mono ?_
  rintro e w4 ⟨rfl, htab, hb4⟩
  have hb24 : Below w2.heap.size w2 w4 := HB3.out.trans (hb4.mono (by have := HZ3.out; omega))
  have hb04 := HB2.out.trans (hb24.mono HB2.out.size)
  have HAt : Hid (RdAt w4 w.heap.size w2.heap.size nb n a c (rd0 acts) (.slice none 0 0)) := Lib.hid (by
    refine ⟨HBx.out.below hb4 (by have := HZ3.out; omega), World.ownsRow_nil _ _ _ _, ?_, by omega, htab⟩
    have h1 := own_up' HRow.out hb24
    have h2 : (rd0 acts).next = List.replicate n (-1) := by rw [← HNl.out]; rfl
    rw [h2]
    exact own_low h1 (by omega))
  have HOk : Hid (OkR n (rd0 acts)) := Lib.hid ⟨by show (0 : Nat) ≤ 2; omega, fun e => (by cases e), by rw [← HNl.out]; simp [rd0], fun x hx => (by simp [rd0] at hx), fun x hx => by
    have := List.eq_of_mem_replicate hx
    omega⟩
  have HRes : Hid (Whole w4 w.heap.size 119 #[.slice none 0 0, .slice none 0 0]) := Lib.hid (HWr2.out.below hb24 (by have := HWr2.out.lt; omega))
  have HB4 := Lib.hid hb04
  clear htab hb4 hb24 hb04
  go_wp2
  go_loopw [10, 23] (fun _ i wr => ∃ (x : Nat) (q : Rd) (va : Value), i = .int .i64 x ∧ x ≤ N ∧ Hid (RdAt wr w.heap.size w2.heap.size nb n a c q va) ∧ Hid (OkR n q ∧ q.acc.length ≤ x ∧ foldR acts (some (rd0 acts)) (r.take x) = some q) ∧ Hid (Whole wr w.heap.size 119 #[.slice none 0 0, .slice none 0 0]) ∧ Below w.heap.size w wr) (fun _ i _ => N - (intOf i).toNat)
  case atStart => exact ⟨0, rd0 acts, _, rfl, Nat.zero_le _, HAt, Lib.hid ⟨HOk.out, Nat.zero_le _, by simp [foldR]⟩, HRes, HB4.out⟩
  case round =>
    obtain ⟨x, q, va, rfl, hx, hat, hq, hres, hb⟩ := hrel
    have HB := Lib.hid hb
    have hzr := hb.size
    have k1 := hat.out.cell.2.1
    have hRl := hat.out.box.lt
    clear hb
    by_cases hlt : x < N
    · obtain ⟨xw, HXw⟩ : ∃ z, Hid (r.getD x [] = z) := ⟨_, Lib.hid rfl⟩
      obtain ⟨bw, ow, rfl, c1⟩ := (HBs.out.below HB.out).cells x (by rw [List.length_map]; have := HR2.out; omega)
      have hgx : r[x]? = some xw := by
        rw [← HXw.out, List.getD_eq_getElem?_getD, List.getElem?_eq_getElem (by have := HR2.out; omega)]; rfl
      rw [List.getD_eq_getElem?_getD, List.getElem?_map, hgx] at c1
      change wr.cell? _ = some (.string (mk xw)) at c1
      obtain ⟨X, HX⟩ : ∃ z, Hid (mk xw = z) := ⟨_, Lib.hid rfl⟩
      rw [HX.out] at c1
      have hXd : X.data.toList = xw := by rw [← HX.out, mk_data]
      have hXs : X.size ≤ 1000000 := by rw [← HX.out, mk_size']; exact HSz.out _ (List.mem_of_getElem? hgx)
      have hnx := foldR_next hq.out.2.2 (by have := HR2.out; omega)
      rw [HXw.out, ← hXd] at hnx
      have HNx := Lib.hid hnx
      -- what the table holds there
      obtain ⟨f, hent, hlook, hcall⟩ : ∃ f, (∀ args w, (callFunc f args).run Tryz.prog w = .ok (.enter f args) w) ∧ (∀ os : Nat, (Instr.lookup 196 (.map (some (w2.heap.size + 1))) (.int .i64 q.part) false).run Tryz.prog wr = .ok (.func (.func f) #[] #[]) wr) ∧
          Calls Tryz.prog f #[.pointer (some ⟨w2.heap.size, 0, none⟩), .string X] wr fun e W' => Below w.heap.size w W' ∧ Low w2.heap.size nb wr W' ∧ ((stepR acts q X.data.toList = none ∧ e = .returned (.bool false)) ∨
            ∃ r' va', stepR acts q X.data.toList = some r' ∧ e = .returned (.bool true) ∧ RdAt W' w.heap.size w2.heap.size nb n a c r' va') := by
        have hl := look_rd hat.out.tab
        rcases (show q.part = 0 ∨ q.part = 1 ∨ q.part = 2 by have := hq.out.1.1; omega) with e | e | e
        · rw [e]
          exact ⟨146, enters_of Tryz.func146 (by kernel_rfl) rfl, fun _ => hl.1, readSet_any HE.out HA.out HACT.out HB.out hat.out e (by have := hq.out.2.1; omega) X (by omega)⟩
        · rw [e]
          exact ⟨147, enters_of Tryz.func147 (by kernel_rfl) rfl, fun _ => hl.2.1, readAction_any HE.out HA.out HACT.out HB.out hat.out e X⟩
        · rw [e]
          exact ⟨148, enters_of Tryz.func148 (by kernel_rfl) rfl, fun _ => hl.2.2, readTarget_any HE.out h8 HB.out hat.out e (hq.out.1.2.1 e) hq.out.1.2.2.1 X hXs⟩
      have hlk := hlook 0
      have HC := Lib.hid hcall
      clear hgx hnx hlook hcall hXd
      go_wp2_with fail
      refine HC.out.mono ?_
      rintro e w5 ⟨hb5, hlow, hcase⟩
      have HB5 := Lib.hid hb5
      have hres5 : Whole w5 w.heap.size 119 #[.slice none 0 0, .slice none 0 0] := (hlow _ (by omega) (by omega)).trans hres.out
      have HRes5 := Lib.hid hres5
      have r0 := hres5.cell 0
      have r1 := hres5.cell 1
      have f0 := hres5.frozen 0
      have f1 := hres5.frozen 1
      have hz5 := hres5.lt
      simp only [List.getElem?_toArray, List.getElem?_cons_succ, List.getElem?_cons_zero] at r0 r1
      clear hb5 hlow hres5
      rcases hcase with ⟨hno, rfl⟩ | ⟨q', va', hyes, rfl, hat'⟩
      · have HN : Hid (steO acts r = none) := Lib.hid (foldR_stop (x := x + 1) (by rw [HNx.out]; exact hno))
        have g0 := (HRes5.out.set 0 (.slice none 0 0)).cell 0
        have g1 := ((HRes5.out.set 0 (.slice none 0 0)).set 1 (.slice none 0 0)).cell 1
        simp only [List.setIfInBounds_toArray, List.set_cons_zero, List.set_cons_succ, List.getElem?_toArray, List.getElem?_cons_succ, List.getElem?_cons_zero] at g0 g1
        have HBe := Lib.hid ((HB5.out.setCell (p := ⟨w.heap.size, 0, none⟩) (Nat.le_refl _) (.slice none 0 0)).setCell (p := ⟨w.heap.size, 1, none⟩) (Nat.le_refl _) (.slice none 0 0))
        clear hno
        go_wp2
        exact bodyPost_ret (v := .tuple #[.agg #[.slice none 0 0, .slice none 0 0], .bool false]) (by simp [results, Tryz.results76, go_sem, g0, g1]) rfl ⟨HBe.out, .inl ⟨HN.out, _, _, _, _, _, _, rfl⟩⟩
      · have HAt' := Lib.hid hat'
        have hst : OkR n q' ∧ q'.acc.length ≤ q.acc.length + 1 := by rw [← HNl.out]; exact OkR.step HACT.out (by rw [HNl.out]; exact hq.out.1) hyes
        have HQ' : Hid (OkR n q' ∧ q'.acc.length ≤ x + 1 ∧ foldR acts (some (rd0 acts)) (r.take (x + 1)) = some q') := Lib.hid ⟨hst.1, by have := hq.out.2.1; omega, by rw [HNx.out]; exact hyes⟩
        clear hst hyes hat' r0 r1 f0 f1
        go_wp2
        go_roundw
        case rel => exact ⟨x + 1, q', va', by go_num, by omega, HAt', HQ', HRes5, HB5.out⟩
        case measure => simp [intOf]; omega
    · have HQe : Hid (steO acts r = rdO (some q)) := Lib.hid (by
        have h9 := hq.out.2.2
        rw [List.take_of_length_le (by have := HR2.out; omega)] at h9
        unfold steO
        rw [h9])
      obtain ⟨va1, vc1, rfl⟩ := own_slice' hat.out.acc
      obtain ⟨k0, k1', k2, k3, k4⟩ := hat.out.cell
      clear k1'
      have r0 := hres.out.cell 0
      have r1 := hres.out.cell 1
      have f0 := hres.out.frozen 0
      have f1 := hres.out.frozen 1
      have hz5 := hres.out.lt
      simp only [List.getElem?_toArray, List.getElem?_cons_succ, List.getElem?_cons_zero] at r0 r1
      obtain ⟨L, hL⟩ : ∃ z, q.acc.length = z := ⟨_, rfl⟩
      rw [hL] at k3
      rw [hL] at hat
      have g0 := (hres.out.set 0 (.slice va1 L vc1)).cell 0
      have g1 := ((hres.out.set 0 (.slice va1 L vc1)).set 1 (.slice (some ⟨nb, 0, none⟩) n n)).cell 1
      simp only [List.setIfInBounds_toArray, List.set_cons_zero, List.set_cons_succ, List.getElem?_toArray, List.getElem?_cons_succ, List.getElem?_cons_zero] at g0 g1
      have HBe := Lib.hid ((HB.out.setCell (p := ⟨w.heap.size, 0, none⟩) (Nat.le_refl _) (.slice va1 L vc1)).setCell (p := ⟨w.heap.size, 1, none⟩) (Nat.le_refl _) (.slice (some ⟨nb, 0, none⟩) n n)).drew
      have hq2 := hq.out.1
      have HF1 : Hid (Fits q.acc) := Lib.hid (fits_small (fun z hz => by have := hq2.2.2.2.1 z hz; omega) (by have := hq.out.2.1; omega))
      have HF2 : Hid (Fits q.next) := Lib.hid (fits_small hq2.2.2.2.2 (by rw [hq2.2.2.1]; omega))
      have hgr : wr.grownBy (((wr.setCell ⟨w.heap.size, 0, none⟩ (.slice va1 L vc1)).setCell ⟨w.heap.size, 1, none⟩ (.slice (some ⟨nb, 0, none⟩) n n)).drew) (some w.heap.size) := by
        have h1 := (grown_self wr ⟨w.heap.size, 0, none⟩ (.slice va1 L vc1)).trans (grown_self (wr.setCell ⟨w.heap.size, 0, none⟩ (.slice va1 L vc1)) ⟨w.heap.size, 1, none⟩ (.slice (some ⟨nb, 0, none⟩) n n))
        exact ⟨h1.os, h1.tape, h1.output, h1.size, h1.block⟩
      have HP : Hid (NumO (((wr.setCell ⟨w.heap.size, 0, none⟩ (.slice va1 L vc1)).setCell ⟨w.heap.size, 1, none⟩ (.slice (some ⟨nb, 0, none⟩) n n)).drew) w.heap.size (.slice va1 L vc1) q.acc) := Lib.hid (by
        have h1 := hat.out.acc
        exact own_low (h1.kept hgr (.inr fun e => by have := own_ge h1 _ e; omega)) (by omega))
      have HQ : Hid (NumO (((wr.setCell ⟨w.heap.size, 0, none⟩ (.slice va1 L vc1)).setCell ⟨w.heap.size, 1, none⟩ (.slice (some ⟨nb, 0, none⟩) n n)).drew) w.heap.size (.slice (some ⟨nb, 0, none⟩) n n) q.next) := Lib.hid (by
        have h1 := hat.out.next
        have h2 := h1.kept hgr (.inr fun e => by simp only [Value.ownBlock, Option.some.injEq] at e; omega)
        unfold NumO
        rw [hq2.2.2.1]
        exact h2)
      have hR0 : w2.heap.size ≠ w.heap.size := by omega
      clear hgr hq2
      obtain ⟨pt, HPt⟩ : ∃ z : Nat, Hid (q.part = z) := ⟨_, Lib.hid rfl⟩
      rw [HPt.out] at k1
      by_cases hp1 : pt = 1
      · subst hp1
        have HT : Hid (steO acts r = some (q.acc, q.next)) := Lib.hid (by rw [HQe.out]; show (if q.part = 1 then some (q.acc, q.next) else none) = _; rw [HPt.out]; rfl)
        go_wp2
        go_region
        go_wp2
        exact bodyPost_ret (v := .tuple #[.agg #[.slice va1 L vc1, .slice (some ⟨nb, 0, none⟩) n n], .bool true]) (by simp [results, Tryz.results76, go_sem, g0, g1]) rfl ⟨HBe.out, .inr ⟨(q.acc, q.next), _, _, HT.out, rfl, HP.out, HQ.out, HF1.out, HF2.out⟩⟩
      · have hpq : ((pt : Int) == 1) = false := by rw [beq_eq_false_iff_ne]; omega
        have HT : Hid (steO acts r = none) := Lib.hid (by rw [HQe.out]; show (if q.part = 1 then some (q.acc, q.next) else none) = _; rw [HPt.out, if_neg hp1])
        go_wp2
        go_region
        go_wp2
        exact bodyPost_ret (v := .tuple #[.agg #[.slice va1 L vc1, .slice (some ⟨nb, 0, none⟩) n n], .bool false]) (by simp [results, Tryz.results76, go_sem, g0, g1]) rfl ⟨HBe.out, .inl ⟨HT.out, _, _, _, _, _, _, rfl⟩⟩
end Go.Proofs.YtgnbkepdbdgkdaaGreatDoor
