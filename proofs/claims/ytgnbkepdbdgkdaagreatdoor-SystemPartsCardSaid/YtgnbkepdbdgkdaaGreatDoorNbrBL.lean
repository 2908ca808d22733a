/- A numbering: a map and a list of values in a structure. -/
import Derived.Test.YtgnbkepdbdgkdaaGreatDoorJq24
import Derived.Test.YtgnbkepdbdgkdaaGreatDoorROrderL
import Derived.Test.YtgnbkepdbdgkdaaGreatDoorJq11
namespace Go.Proofs.YtgnbkepdbdgkdaaGreatDoor
open Go.RowKit Pl

/-! ### the map -/
def nbL : List Nat → Nat → List MapEntry
  | [], _ => []
  | x :: l, i => { key := .int .i64 x, val := .int .i64 i, born := i } :: nbL l (i + 1)
theorem nbL_snoc (x : Nat) : ∀ (l : List Nat) (i : Nat), nbL l i ++ [{ key := .int .i64 x, val := .int .i64 ((i + l.length : Nat) : Int), born := i + l.length }] = nbL (l ++ [x]) i
  | [], i => by simp [nbL]
  | y :: l, i => by
    have h := nbL_snoc x l (i + 1)
    simp only [nbL, List.cons_append, List.length_cons]
    rw [← h, show i + 1 + l.length = i + (l.length + 1) by omega]
theorem find_nb (x : Nat) : ∀ (l : List Nat) (i s : Nat), Instr.findNow (.int .i64) (.int .i64 (x : Int)) (nbL l i) s = some (if x ∈ l then some (s + l.idxOf x, .int .i64 ((i + l.idxOf x : Nat) : Int)) else none)
  | [], i, s => by simp [nbL, Instr.findNow]
  | y :: l, i, s => by
    have ih := find_nb x l (i + 1) (s + 1)
    simp only [nbL, Instr.findNow, Instr.sameNow]
    by_cases e : x = y
    · subst e
      simp
    · have e2 : ((x : Int) == (y : Int)) = false := by simp; omega
      have e3 : (y == x) = false := by simp; omega
      have e4 : (y :: l).idxOf x = l.idxOf x + 1 := by rw [List.idxOf_cons, e3]; rfl
      simp only [ih, e2, List.mem_cons, e, false_or, e4, if_true]
      by_cases h : x ∈ l
      · rw [if_pos h, if_pos h, show s + 1 + l.idxOf x = s + (l.idxOf x + 1) by omega, show i + 1 + l.idxOf x = i + (l.idxOf x + 1) by omega]
      · rw [if_neg h, if_neg h]
theorem look_hitB {P : Program} {w : World} {mty kt et : TypeId} {K : IntKind} {r clock i : Nat} {es : Array MapEntry} {k : Int} {val : Value} (hm : P.underlying mty = some (.map kt et)) (hk : P.underlying kt = some (.int K)) (hb : w.heap[r]? = some (.map es clock))
    (hf : Instr.findNow (.int K) (.int K k) es.toList 0 = some (some (i, val))) : (Instr.lookup mty (.map (some r)) (.int K k) true).run P w = .ok (.tuple #[val, .bool true]) w := by
  have hc : (Instr.checkKey es.isEmpty 10000 kt (.int K k)).run P w = .ok () w := MapKept.run_checkKey (k := .int K k) hk (by simp [MapKept.IsKey]) _ 9999
  simp [Instr.lookup, run_underlying hm, MapKept.run_getObj_map hb, hc, MapKept.run_findKey hk hf, Result.andThen]
theorem look_noB {P : Program} {w : World} {mty kt et : TypeId} {K : IntKind} {r clock : Nat} {es : Array MapEntry} {k : Int} {z : Value} (hm : P.underlying mty = some (.map kt et)) (hk : P.underlying kt = some (.int K)) (hb : w.heap[r]? = some (.map es clock)) (hz : (zeroValue et).run P w = .ok z w)
    (hf : Instr.findNow (.int K) (.int K k) es.toList 0 = some none) : (Instr.lookup mty (.map (some r)) (.int K k) true).run P w = .ok (.tuple #[z, .bool false]) w := by
  have hc : (Instr.checkKey es.isEmpty 10000 kt (.int K k)).run P w = .ok () w := MapKept.run_checkKey (k := .int K k) hk (by simp [MapKept.IsKey]) _ 9999
  simp [Instr.lookup, run_underlying hm, MapKept.run_getObj_map hb, hc, MapKept.run_findKey hk hf, Result.andThen, hz]
/-! ### what else stands -/
/-- three rows are written, one after the other -/
def Nb3 (W W' : World) (r1 r2 r3 : Option Nat) : Prop := ∃ W1 W2, W.grownBy W1 r1 ∧ W1.grownBy W2 r2 ∧ W2.grownBy W' r3
theorem Nb3.own {W W' : World} {r1 r2 r3 : Option Nat} (h : Nb3 W W' r1 r2 r3) {base : Nat} {e : TypeId} {size n : Nat} {v : Value} {xs : List Value} (hO : W.ownsRow base e size v n xs)
    (h1 : v.ownBlock = none ∨ v.ownBlock ≠ r1) (h2 : v.ownBlock = none ∨ v.ownBlock ≠ r2) (h3 : v.ownBlock = none ∨ v.ownBlock ≠ r3) : W'.ownsRow base e size v n xs := by
  obtain ⟨W1, W2, g1, g2, g3⟩ := h
  exact ((hO.kept g1 h1).kept g2 h2).kept g3 h3
theorem Nb3.below {W W' : World} {r1 r2 r3 : Option Nat} (h : Nb3 W W' r1 r2 r3) {B : Nat} (hB : B ≤ W.heap.size) (h1 : ∀ k, r1 = some k → B ≤ k) (h2 : ∀ k, r2 = some k → B ≤ k) (h3 : ∀ k, r3 = some k → B ≤ k) : Below B W W' := by
  obtain ⟨W1, W2, g1, g2, g3⟩ := h
  exact (((Below.refl B W).grown g1 hB h1).grown g2 (Nat.le_trans hB g1.size) h2).grown g3 (Nat.le_trans hB (Nat.le_trans g1.size g2.size)) h3
theorem Nb3.whole {W W' : World} {r1 r2 r3 : Option Nat} (h : Nb3 W W' r1 r2 r3) {g : Nat} {t : TypeId} {cs : Array Value} (hw : Whole W g t cs) (h1 : some g ≠ r1) (h2 : some g ≠ r2) (h3 : some g ≠ r3) : Whole W' g t cs := by
  obtain ⟨W1, W2, g1, g2, g3⟩ := h
  exact ((hw.grown g1 h1).grown g2 h2).grown g3 h3
theorem Nb3.of_below {W W' : World} (h : Below W.heap.size W W') (r1 r2 r3 : Option Nat) : Nb3 W W' r1 r2 r3 := by
  have h0 := below_grown h
  exact ⟨W', W', ⟨h0.os, h0.tape, h0.output, h0.size, fun k hk _ => h.block k hk⟩, ⟨rfl, rfl, rfl, Nat.le_refl _, fun _ _ _ => rfl⟩, ⟨rfl, rfl, rfl, Nat.le_refl _, fun _ _ _ => rfl⟩⟩
/-- a numbering -/
structure NbAt (W : World) (B nb M : Nat) (sv : Value) (L : List Nat) : Prop where
  box : Whole W nb 97 #[sv, .map (some M)]
  tab : W.heap[M]? = some (.map (nbL L 0).toArray L.length)
  lst : NumO W B sv (zs L)

set_option maxRecDepth 100000 in
set_option maxHeartbeats 1000000 in
theorem number_any {w : World} {B nb M : Nat} {sv : Value} {L : List Nat} (h : NbAt w B nb M sv L) (hB : B ≤ w.heap.size) (hL : L.length ≤ 5000) (x : Nat) :
    Calls Tryz.prog 49 #[.pointer (some ⟨nb, 0, none⟩), .int .i64 (x : Int)] w fun e w' => ∃ sv', e = .returned (.int .i64 (((cAdd L x).idxOf x : Nat) : Int)) ∧ NbAt w' B nb M sv' (cAdd L x) ∧ Nb3 w w' (some M) sv.ownBlock (some nb) ∧ (sv'.ownBlock = sv.ownBlock ∨ ∃ q, sv'.ownBlock = some q ∧ w.heap.size ≤ q) := by
  obtain ⟨i1, hi1, hz10, hz11, hz12⟩ := info_parts infoNumS
  have H := Lib.hid h
  have k0 := h.box.cell 0
  have k1 := h.box.cell 1
  simp only [List.getElem?_toArray, List.getElem?_cons_succ, List.getElem?_cons_zero] at k0 k1
  by_cases hin : x ∈ L
  · have look := look_hitB (P := Tryz.prog) (i := L.idxOf x) (val := .int .i64 ((L.idxOf x : Nat) : Int)) Tryz.underlying95 Tryz.underlying3 h.tab (k := (x : Int)) (by
      have h9 := find_nb x L 0 0
      rw [if_pos hin, Nat.zero_add] at h9
      exact h9)
    have HC : Hid (cAdd L x = L) := Lib.hid (by unfold cAdd; rw [if_pos hin])
    clear h hin
    go_enter Tryz.func49, Tryz.ntmps49
    go_wp2
    go_ret
    rw [HC.out]
    exact ⟨_, rfl, H.out, Nb3.of_below (Below.refl _ _) _ _ _, .inl rfl⟩
  · have look := look_noB (P := Tryz.prog) Tryz.underlying95 Tryz.underlying3 h.tab (k := (x : Int)) (z := .int .i64 0) (Tryz.zeroValue3 w) (by
      have h9 := find_nb x L 0 0
      rw [if_neg hin] at h9
      exact h9)
    have HC : Hid (cAdd L x = L ++ [x]) := Lib.hid (by unfold cAdd; rw [if_neg hin])
    have HIx : Hid ((L ++ [x]).idxOf x = L.length) := Lib.hid (by rw [List.idxOf_append, if_neg hin]; simp)
    obtain ⟨la, lc, rfl⟩ : ∃ la lc, sv = .slice la L.length lc := by
      obtain ⟨y, z, e⟩ := own_slice' h.lst
      rw [zs_len] at e
      exact ⟨y, z, e⟩
    have upd := upd_new (P := Tryz.prog) (val := .int .i64 ((L.length : Nat) : Int)) Tryz.underlying95 Tryz.underlying3 h.tab (k := (x : Int)) (by
      have h9 := find_nb x L 0 0
      rw [if_neg hin] at h9
      exact h9)
    have hsn : (nbL L 0).toArray.push { key := .int .i64 (x : Int), val := .int .i64 ((L.length : Nat) : Int), born := L.length } = (nbL (L ++ [x]) 0).toArray := by
      have h9 := nbL_snoc x L 0
      simp only [Nat.zero_add] at h9
      rw [← h9]
      simp
    rw [hsn] at upd
    have hg1 := map_grown (w := w) (r := M) (o := .map (nbL (L ++ [x]) 0).toArray (L.length + 1))
    have ht1 := (MapKept.heap_set (o' := .map (nbL (L ++ [x]) 0).toArray (L.length + 1)) h.tab).1
    obtain ⟨w1, HW1⟩ : ∃ z, Hid (({ w with heap := w.heap.setIfInBounds M (.map (nbL (L ++ [x]) 0).toArray (L.length + 1)) } : World) = z) := ⟨_, Lib.hid rfl⟩
    have ht1' : w1.heap[M]? = some (.map (nbL (L ++ [x]) 0).toArray (L.length + 1)) := by rw [← HW1.out]; exact ht1
    rw [HW1.out] at upd hg1
    have hb1 : Whole w1 nb 97 #[.slice la L.length lc, .map (some M)] := h.box.grown hg1 (fun e => tab_whole h.tab h.box (by simpa using e))
    have hl1 : w1.ownsRow B 3 1 (.slice la L.length lc) L.length ((zs L).map (Value.int .i64)) := by
      have h9 : w1.ownsRow B 3 1 (.slice la L.length lc) (zs L).length ((zs L).map (Value.int .i64)) := World.ownsRow.kept h.lst hg1 (.inr (tab_own h.tab h.lst).symm)
      rw [zs_len] at h9
      exact h9
    have m0 := hb1.cell 0
    have m1 := hb1.cell 1
    simp only [List.getElem?_toArray, List.getElem?_cons_succ, List.getElem?_cons_zero] at m0 m1
    have n1 := cell_new m0 (.cells #[.int .i64 (x : Int)] 3)
    have HG1 := Lib.hid hg1
    have HB1 := Lib.hid hb1
    have HT1 := Lib.hid ht1'
    have HR1 := Lib.hid (hl1.alloc (.cells #[.int .i64 (x : Int)] 3))
    have hz1 : B ≤ w1.heap.size := Nat.le_trans hB hg1.size
    clear h hin hsn hg1 ht1 ht1' hb1 hl1
    go_enter Tryz.func49, Tryz.ntmps49
    go_upto_region 5 with (fail)
    go_wp2_with (at_builtin; (refine wpList_append_sz rfl (.tmp 33) (.tmp 35) 28 rfl B 3 i1 (.int .i64 0) 1 8 Tryz.underlying28 hi1 hz10 hz11 hz12 rfl (by decide) (.slice la L.length lc) rfl L.length ((zs L).map (Value.int .i64)) HR1.out (some ⟨w1.heap.size, 0, none⟩) 1 1 rfl [.int .i64 (x : Int)] (fun h => by cases h) rfl (one_src _ _ _) (by simp [Value.oneCell']) (by unfold maxLen; omega) (by omega) (by simp; omega) ?_); intro v2 w2 hv2 hg2 hat2; refine Hid.out ?_)
    obtain ⟨a2, q2, rfl⟩ := own_slice hv2
    have kW := (HB1.out.alloc (.cells #[.int .i64 (x : Int)] 3)).grown hg2 (own_whole HR1.out (HB1.out.alloc (.cells #[.int .i64 (x : Int)] 3)) (by decide))
    have f1 := kW.frozen 0
    have f2 := kW.cell 0
    have f3 := kW.lt
    simp only [List.getElem?_toArray, List.getElem?_cons_zero] at f2
    have HN : Hid (NbAt (w2.setCell ⟨nb, 0, none⟩ (.slice a2 (L.length + 1) q2)) B nb M (.slice a2 (L.length + 1) q2) (L ++ [x])) := Lib.hid (by
      have ta : (w1.alloc (.cells #[.int .i64 (x : Int)] 3)).heap[M]? = some (.map (nbL (L ++ [x]) 0).toArray (L.length + 1)) := tab_kept HT1.out (World.grownBy_alloc w1 _ none) (by simp)
      have tb := tab_kept ta hg2 (tab_own ta HR1.out)
      refine ⟨by simpa using kW.set 0 (.slice a2 (L.length + 1) q2), ?_, ?_⟩
      · have tc := tab_kept tb (grown_self w2 ⟨nb, 0, none⟩ (.slice a2 (L.length + 1) q2)) (fun e => tab_whole tb kW (by simpa using e.symm))
        rw [List.length_append, List.length_singleton]
        exact tc
      · unfold NumO
        rw [zs_snoc, List.length_append, List.length_singleton, zs_len, List.map_append]
        exact own_stored hv2 kW (by decide))
    have H3 : Hid (Nb3 w (w2.setCell ⟨nb, 0, none⟩ (.slice a2 (L.length + 1) q2)) (some M) (Value.slice la L.length lc).ownBlock (some nb)) := Lib.hid
      ⟨w1, w2, HG1.out, (World.grownBy_alloc w1 _ _).trans hg2, grown_self w2 ⟨nb, 0, none⟩ (.slice a2 (L.length + 1) q2)⟩
    have HAt : Hid ((Value.slice a2 (L.length + 1) q2).ownBlock = (Value.slice la L.length lc).ownBlock ∨ ∃ q, (Value.slice a2 (L.length + 1) q2).ownBlock = some q ∧ w.heap.size ≤ q) := Lib.hid (by
      rcases hat2 with e | e
      · exact .inl e
      · exact .inr ⟨_, e, Nat.le_trans HG1.out.size (by simp)⟩)
    clear hv2 hg2 hat2 kW
    refine Lib.hid ?_
    go_wp2
    go_ret
    rw [HC.out, HIx.out]
    exact ⟨_, rfl, HN.out, H3.out, HAt.out⟩
end Go.Proofs.YtgnbkepdbdgkdaaGreatDoor
