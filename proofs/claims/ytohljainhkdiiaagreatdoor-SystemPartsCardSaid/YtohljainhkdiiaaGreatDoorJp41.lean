/- Texts joined: Cpv, OrdPl, ROrder, OPartPl. -/
import Derived.Test.YtohljainhkdiiaaGreatDoorJp31
import Derived.Test.YtohljainhkdiiaaGreatDoorJp33
import Derived.Deep.RegionHeld3
import Derived.Test.YtohljainhkdiiaaGreatDoorJp40
import Derived.Test.YtohljainhkdiiaaGreatDoorJp28
import Derived.Test.YtohljainhkdiiaaGreatDoorJp30
import Derived.StillTailTactics
import Derived.BigQuiet
import Derived.Deep.Cut
/- law03's copied: the same verdict in new memory. -/
namespace Go.Proofs.YtohljainhkdiiaaGreatDoor
open Go.RowKit Pl

theorem own_pairs {w : World} {base : Nat} {e : TypeId} {a : Option Addr} {n c : Nat} {L : List Edg} (h : w.ownsRow base e 2 (.slice a n c) L.length (ecells L)) (hbig : L.length ≤ 140737488355328) : n = L.length ∧ EdgeArg w a n c L := by
  rcases h.2 with ⟨e1, e0⟩ | ⟨g, cap, cur, e1, hg, hh, hc, hm, hz, ht⟩
  · simp only [Value.slice.injEq] at e1
    obtain ⟨rfl, rfl, rfl⟩ := e1
    exact ⟨e0.symm, fun _ => rfl, e0.symm, by omega, by omega, fun j hj => by omega⟩
  · simp only [Value.slice.injEq] at e1
    obtain ⟨rfl, rfl, rfl⟩ := e1
    refine ⟨rfl, (fun h => by cases h), rfl, hc, hbig, fun j hj => ⟨g, 0, rfl, ?_, ?_⟩⟩
    · rw [Nat.zero_add, h.cellAt (j * 2) (by omega)]
      exact (ecells_at L j hj).1
    · rw [Nat.zero_add, h.cellAt (j * 2 + 1) (by omega)]
      exact (ecells_at L j hj).2
theorem whole_arr {W : World} {g : Nat} {t : TypeId} {x0 x1 x2 x3 : Value} (h : Whole W g t #[x0, x1, x2, x3]) :
    W.cell? ⟨g, 0, none⟩ = some x0 ∧ W.cell? ⟨g, 1, none⟩ = some x1 ∧ W.cell? ⟨g, 2, none⟩ = some x2 ∧ W.cell? ⟨g, 3, none⟩ = some x3 :=
  ⟨h.cell 0, h.cell 1, h.cell 2, h.cell 3⟩
theorem whole_frz {W : World} {g : Nat} {t : TypeId} {cs : Array Value} (h : Whole W g t cs) :
    W.frozen? ⟨g, 0, none⟩ = false ∧ W.frozen? ⟨g, 1, none⟩ = false ∧ W.frozen? ⟨g, 2, none⟩ = false ∧ W.frozen? ⟨g, 3, none⟩ = false :=
  ⟨h.frozen 0, h.frozen 1, h.frozen 2, h.frozen 3⟩

theorem own_put4 {W : World} {base g : Nat} {e t : TypeId} {size n : Nat} {v : Value} {xs : List Value} {cs : Array Value} (h : W.ownsRow base e size v n xs) (hw : Whole W g t cs) (hne : e ≠ t) (a b c d : Value) :
    ((((W.setCell ⟨g, 0, none⟩ a).setCell ⟨g, 1, none⟩ b).setCell ⟨g, 2, none⟩ c).setCell ⟨g, 3, none⟩ d).ownsRow base e size v n xs :=
  own_stored (own_stored (own_stored (own_stored h hw hne) (hw.set 0 a) hne) ((hw.set 0 a).set 1 b) hne) (((hw.set 0 a).set 1 b).set 2 c) hne
set_option maxRecDepth 100000 in
set_option maxHeartbeats 8000000 in
theorem copied_any {w : World} (h : Bool) {pa : Option Addr} {pn pc : Nat} {L : List Edg} (P : EdgeArg w pa pn pc L) {wa : Option Addr} {wn wc : Nat} {word : List Int} (Wd : IntArg w wa wn wc word) (st : Int) (hp : pn ≤ 10000000) (hw : wn ≤ 10000000) :
    Calls Tryz.prog 25 #[.agg #[.bool h, .slice pa pn pc, .slice wa wn wc, .int .i64 st]] w fun e w' => ∃ pa' pc' wa' wc', e = .returned (.agg #[.bool h, .slice pa' pn pc', .slice wa' wn wc', .int .i64 st]) ∧ EdgeArg w' pa' pn pc' L ∧ IntArg w' wa' wn wc' word ∧ Below w.heap.size w w' := by
  obtain ⟨i1, hi1, hz10, hz11, hz12⟩ := info_parts infoNumS
  obtain ⟨i3, hi3, hz30, hz31, hz32⟩ := info_parts infoPair
  have hB := ((Below.refl w.heap.size w).alloc (Nat.le_refl _) (.cells #[.bool h, .slice pa pn pc, .slice wa wn wc, .int .i64 st] 47)).alloc (by simp) (.cells #[.bool false, .slice none 0 0, .slice none 0 0, .int .i64 0] 47)
  have hX := (Whole.new w 47 #[.bool h, .slice pa pn pc, .slice wa wn wc, .int .i64 st]).alloc (.cells #[.bool false, .slice none 0 0, .slice none 0 0, .int .i64 0] 47)
  have hO := Whole.new (w.alloc (.cells #[.bool h, .slice pa pn pc, .slice wa wn wc, .int .i64 st] 47)) 47 #[.bool false, .slice none 0 0, .slice none 0 0, .int .i64 0]
  simp only [World.size_alloc] at hO
  obtain ⟨w0, HW0⟩ : ∃ z, Hid ((w.alloc (.cells #[.bool h, .slice pa pn pc, .slice wa wn wc, .int .i64 st] 47)).alloc (.cells #[.bool false, .slice none 0 0, .slice none 0 0, .int .i64 0] 47) = z) := ⟨_, Lib.hid rfl⟩
  rw [HW0.out] at hB hX hO
  have NA := Lib.hid (P.below hB)
  have NB := Lib.hid (Wd.below hB)
  have LA : Hid ((ecells L).length = pn * 2) := Lib.hid (by rw [ecells_length, P.len])
  have LB : Hid ((word.map (Value.int .i64)).length = wn * 1) := Lib.hid (by have := Wd.len; simp; omega)
  have LA2 : Hid (L.length = pn) := Lib.hid P.len.symm
  have LB2 : Hid (word.length = wn) := Lib.hid Wd.len.symm
  have NN : Hid (pa = none → pn = 0 ∧ pc = 0) := Lib.hid (fun e => by have := P.nil e; have := P.cap; omega)
  have zO := Lib.hid hO
  have zX := Lib.hid hX
  have HB := Lib.hid hB
  have hS0 : w.heap.size ≤ w0.heap.size := hB.size
  have kD : w0.drew.cell? ⟨w.heap.size, 0, none⟩ = some (.bool h) ∧ w0.drew.cell? ⟨w.heap.size, 1, none⟩ = some (.slice pa pn pc) ∧ w0.drew.cell? ⟨w.heap.size, 2, none⟩ = some (.slice wa wn wc) ∧ w0.drew.cell? ⟨w.heap.size, 3, none⟩ = some (.int .i64 st) := whole_arr hX
  have nO : w.heap.size + 1 ≠ w.heap.size ∧ w.heap.size + 1 ≠ w.heap.size ∧ w.heap.size + 1 ≠ w.heap.size ∧ w.heap.size + 1 ≠ w.heap.size := ⟨by omega, by omega, by omega, by omega⟩
  clear P Wd hB hX hO
  go_enter Tryz.func25, Tryz.ntmps25
  go_wp2
  rw [HW0.out]
  go_region_held3 (fun w' => w'.cell? ⟨w.heap.size, 0, none⟩ = some (.bool h) ∧ w'.cell? ⟨w.heap.size, 1, none⟩ = some (.slice pa pn pc) ∧ w'.cell? ⟨w.heap.size, 2, none⟩ = some (.slice wa wn wc) ∧ w'.cell? ⟨w.heap.size, 3, none⟩ = some (.int .i64 st))
    ((with_reducible (first | assumption | exact ms_far kJ nO _ _ _ _ | exact kD)))
    (first
      | (refine step_append_sz rfl (.const (.slice none 0 0)) (.tmp 6) 43 (by rfl) w.heap.size 96 i3 (.agg #[.int .i64 0, .int .i64 0]) 2 16 Tryz.underlying43 hi3 hz30 hz31 hz32 rfl (by decide) (.slice none 0 0) (by rfl) 0 [] (World.ownsRow_nil _ _ _ _) pa pn pc (by rfl) (ecells L) NN.out LA.out (edges_src (NA.out.below (Below.refl _ w0).drew).cells) (ecells_one _) (by unfold maxLen; omega) (by omega) hS0 ?_; intro v wA hA hg hat; clear hat; simp only [Nat.zero_add, List.nil_append] at hA; obtain ⟨xA, qA, rfl⟩ := own_slice hA; have hGA : Below w0.heap.size w0 wA := (Below.refl _ w0).drew.trans (below_up hg); have kI := ms_up (below_up hg) kD)
      | (refine step_append_sz rfl (.const (.slice none 0 0)) (.tmp 9) 28 (by rfl) w.heap.size 3 i1 (.int .i64 0) 1 8 Tryz.underlying28 hi1 hz10 hz11 hz12 rfl (by decide) (.slice none 0 0) (by rfl) 0 [] (World.ownsRow_nil _ _ _ _) wa wn wc (by rfl) (word.map (Value.int .i64)) NB.out.nils LB.out (numsrc (NB.out.below hGA)) (numone _) (by unfold maxLen; omega) (by omega) (Nat.le_trans hS0 hGA.size) ?_; intro v wB hB hg2 hat; clear hat; simp only [Nat.zero_add, List.nil_append] at hB; obtain ⟨xB, qB, rfl⟩ := own_slice hB; have hGB := hGA.trans ((below_up hg2).mono hGA.size); have hA2 := own_up hA hg2; have kJ := ms_up (below_up hg2) kI; obtain ⟨f0, f1, f2, f3⟩ := whole_frz (zO.out.below hGB zO.out.lt); obtain ⟨m0, m1, m2, m3⟩ := whole_arr (zO.out.below hGB zO.out.lt)))
  all_goals
    have hz := zO.out.below hGB zO.out.lt
    have hVa := (((hz.set 0 (.bool h)).set 1 (.slice xA pn qA)).set 2 (.slice xB wn qB)).set 3 (.int .i64 st)
    have hP4 := own_put4 hA2 hz (by decide) (.bool h) (.slice xA pn qA) (.slice xB wn qB) (.int .i64 st)
    have hW4 := own_put4 hB hz (by decide) (.bool h) (.slice xA pn qA) (.slice xB wn qB) (.int .i64 st)
    have hbw : Below w.heap.size w ((((wB.setCell ⟨w.heap.size + 1, 0, none⟩ (.bool h)).setCell ⟨w.heap.size + 1, 1, none⟩ (.slice xA pn qA)).setCell ⟨w.heap.size + 1, 2, none⟩ (.slice xB wn qB)).setCell ⟨w.heap.size + 1, 3, none⟩ (.int .i64 st)) := ((((HB.out.trans (hGB.mono HB.out.size)).setCell (p := ⟨w.heap.size + 1, 0, none⟩) (by simp) _).setCell (p := ⟨w.heap.size + 1, 1, none⟩) (by simp) _).setCell (p := ⟨w.heap.size + 1, 2, none⟩) (by simp) _).setCell (p := ⟨w.heap.size + 1, 3, none⟩) (by simp) _
    rw [← LA2.out] at hP4
    have hq := (own_pairs (a := xA) (n := L.length) (c := qA) hP4 (by rw [LA2.out]; omega)).2
    have hq2 : IntArg ((((wB.setCell ⟨w.heap.size + 1, 0, none⟩ (.bool h)).setCell ⟨w.heap.size + 1, 1, none⟩ (.slice xA pn qA)).setCell ⟨w.heap.size + 1, 2, none⟩ (.slice xB wn qB)).setCell ⟨w.heap.size + 1, 3, none⟩ (.int .i64 st)) xB wn qB word := by
      rw [← LB2.out] at hW4 ⊢
      exact (own_nums (n := word.length) hW4 (by rw [LB2.out]; omega)).2
    rw [LA2.out] at hq
    have HFin := Lib.hid (And.intro hq (And.intro hq2 hbw))
    obtain ⟨l0, l1, l2, l3⟩ := whole_arr (x0 := .bool h) (x1 := .slice xA pn qA) (x2 := .slice xB wn qB) (x3 := .int .i64 st) hVa
    clear hz hVa hP4 hW4 hbw hq hq2 hA2 hB hA hGA hGB hg hg2 kD kI kJ m0 m1 m2 m3 f0 f1 f2 f3
    go_wp2
    exact bodyPost_ret (v := .agg #[.bool h, .slice xA pn qA, .slice xB wn qB, .int .i64 st]) (by simp [results, Tryz.results25, go_sem, l0, l1, l2, l3]) rfl ⟨xA, qA, xB, qB, rfl, HFin.out.1, HFin.out.2.1, HFin.out.2.2⟩
end Go.Proofs.YtohljainhkdiiaaGreatDoor
/- Plain facts: the states that can be reached from a state, in the order in which they are met; nothing here is about a program. -/
namespace Go.Proofs.YtohljainhkdiiaaGreatDoor.Pl
open Go Go.Lib

/-- behind some edges -/
def ordE (l : List Nat) (es : List Edg) : List Nat := es.foldl (fun l e => cAdd l e.2.toNat) l
/-- behind the first i states of the list -/
def ordQ (m : Syst) (st : Nat) : Nat → List Nat
  | 0 => [st]
  | i + 1 => ordE (ordQ m st i) (stAt m.states ((ordQ m st i).getD i 0))
theorem ordE_next {l : List Nat} {es : List Edg} {j : Nat} (hj : j < es.length) : ordE l (es.take (j + 1)) = cAdd (ordE l (es.take j)) (edAt es j).2.toNat := by
  have e2 : edAt es j = es[j] := by simp [edAt, List.getD, hj]
  rw [e2]
  unfold ordE
  rw [List.take_succ_eq_append_getElem hj, List.foldl_append]
  rfl
theorem cAdd_pre (l : List Nat) (y : Nat) : l <+: cAdd l y := by
  unfold cAdd
  split
  · exact List.prefix_refl _
  · exact List.prefix_append _ _
theorem ordE_pre : ∀ (es : List Edg) (l : List Nat), l <+: ordE l es
  | [], l => List.prefix_refl _
  | e :: es, l => (cAdd_pre l _).trans (ordE_pre es (cAdd l e.2.toNat))
theorem ordQ_pre (m : Syst) (st : Nat) (i : Nat) : ∀ k, ordQ m st i <+: ordQ m st (i + k)
  | 0 => List.prefix_refl _
  | k + 1 => (ordQ_pre m st i k).trans (ordE_pre _ _)
theorem ordE_ok {m : Syst} (hm : sysB m = true) {x : Nat} (hx : x < m.states.length) {l : List Nat} (h : CrOk m.states.length l) : ∀ j, j ≤ (stAt m.states x).length → CrOk m.states.length (ordE l ((stAt m.states x).take j))
  | 0, _ => by simpa [ordE] using h
  | j + 1, hj => by
    have ih := ordE_ok hm hx h j (by omega)
    have h3 := edge_ok hm hx (show j < (stAt m.states x).length by omega)
    rw [ordE_next (by omega)]
    exact ih.add (by omega)
/-- the first i places are there -/
def OStp (m : Syst) (st i : Nat) : Prop := ∀ j, j < i → j < (ordQ m st j).length
theorem ordQ_ok {m : Syst} (hm : sysB m = true) {st : Nat} (hst : st < m.states.length) : ∀ i, OStp m st i → CrOk m.states.length (ordQ m st i)
  | 0, _ => ⟨by simp [ordQ], fun y hy => by
      have h1 : y ∈ [st] := hy
      rw [List.mem_singleton] at h1
      omega⟩
  | i + 1, h => by
    have ih := ordQ_ok hm hst i (fun j hj => h j (by omega))
    have hi := h i (by omega)
    have hx : (ordQ m st i).getD i 0 < m.states.length := by
      rw [List.getD_eq_getElem?_getD, List.getElem?_eq_getElem hi]
      exact ih.2 _ (List.getElem_mem hi)
    have h1 := ordE_ok hm hx ih _ (Nat.le_refl _)
    rw [List.take_length] at h1
    exact h1
/-- the whole list -/
def OrdIs (m : Syst) (st : Nat) (L : List Nat) : Prop := ∃ i, OStp m st i ∧ (ordQ m st i).length = i ∧ L = ordQ m st i
theorem ord_once {m : Syst} {st : Nat} {L L' : List Nat} (h : OrdIs m st L) (h' : OrdIs m st L') : L = L' := by
  obtain ⟨i, h1, h2, rfl⟩ := h
  obtain ⟨j, h3, h4, rfl⟩ := h'
  obtain rfl : i = j := by
    rcases Nat.lt_trichotomy i j with q | q | q
    · have := h3 i q
      omega
    · exact q
    · have := h1 j q
      omega
  rfl
theorem ord_ok {m : Syst} (hm : sysB m = true) {st : Nat} (hst : st < m.states.length) {L : List Nat} (h : OrdIs m st L) : CrOk m.states.length L := by
  obtain ⟨i, h1, _, rfl⟩ := h
  exact ordQ_ok hm hst i h1
theorem steps_next {m : Syst} {st i : Nat} (h : OStp m st i) (hi : i < (ordQ m st i).length) : OStp m st (i + 1) := fun j hj => by
  rcases Nat.lt_or_ge j i with h1 | h1
  · exact h j h1
  · obtain rfl : j = i := by omega
    exact hi
end Go.Proofs.YtohljainhkdiiaaGreatDoor.Pl
/- The reference's Order. -/
namespace Go.Proofs.YtohljainhkdiiaaGreatDoor
open Go.RowKit Pl

/-- where Order stands: the marks and the list -/
structure OrAt (w0 V : World) (M k : Nat) (lv : Value) (l : List Nat) : Prop where
  lst : NumO V w0.heap.size lv (zs l)
  mar : V.ownsRow w0.heap.size 4 1 (.slice (some ⟨M, 0, none⟩) k k) k (marksL k l)
  below : Below w0.heap.size w0 V
section
variable {w0 V W : World} {M k : Nat} {lv : Value} {l : List Nat}
theorem OrAt.up (h : OrAt w0 V M k lv l) (hb : Below V.heap.size V W) : OrAt w0 W M k lv l :=
  ⟨own_up' h.lst hb, own_up' h.mar hb, h.below.trans (hb.mono h.below.size)⟩
/-- a state is marked, and put behind the list -/
theorem OrAt.next {X : World} {o : Obj} {v2 : Value} {y : Nat} (h : OrAt w0 V M k lv l) (hy : y < k) (hn : y ∉ l) (hX : Below (V.setCell ⟨M, y, none⟩ (.bool true)).heap.size (V.setCell ⟨M, y, none⟩ (.bool true)) X) (hg : (X.alloc o).grownBy W lv.ownBlock)
    (hown : W.ownsRow w0.heap.size 3 1 v2 ((zs l).length + 1) ((zs l).map (Value.int .i64) ++ [.int .i64 (y : Int)])) : OrAt w0 W M k v2 (cAdd l y) := by
  have h1 := h.mar.stored y (.bool true)
  rw [marksL_put hy hn] at h1
  have hl := World.ownsRow.kept h.lst h1.2 (own_apart h.lst h.mar (by decide))
  have hb := h.below.setCell (show w0.heap.size ≤ M from own_ge h.mar _ rfl) (p := ⟨M, y, none⟩) (.bool true)
  have hXa := hX.trans (((Below.refl _ X).alloc (Nat.le_refl _) o).mono hX.size)
  have hm2 := own_up' h1.1 hXa
  have hl2 := own_up' hl hXa
  have e : cAdd l y = l ++ [y] := by unfold cAdd; rw [if_neg hn]
  refine ⟨?_, hm2.kept hg (own_apart hm2 hl2 (by decide)), (hb.trans (hXa.mono hb.size)).grown hg (Nat.le_trans hb.size hXa.size) (own_ge hl2)⟩
  rw [e]
  unfold NumO
  rw [zs_snoc, List.length_append, List.length_singleton, List.map_append]
  exact hown
end
theorem zs_cell {l : List Nat} {r x : Nat} (h : l[r]? = some x) : ((zs l).map (Value.int .i64))[r]? = some (.int .i64 (x : Int)) := by
  unfold zs
  rw [List.map_map, List.getElem?_map, h]
  rfl
theorem own_some {W : World} {B : Nat} {e : TypeId} {size n c m : Nat} {a : Option Addr} {xs : List Value} (h : W.ownsRow B e size (.slice a n c) m xs) : n = m ∧ (0 < m → ∃ b, a = some ⟨b, 0, none⟩) := by
  rcases h.2 with ⟨q, q0⟩ | ⟨g, cap, cur, q, _⟩
  · simp only [Value.slice.injEq] at q
    exact ⟨by omega, fun h0 => by omega⟩
  · simp only [Value.slice.injEq] at q
    exact ⟨q.2.1, fun _ => ⟨g, q.1⟩⟩

set_option maxRecDepth 100000 in
set_option maxHeartbeats 16000000 in
theorem ROrder_any {w : World} {a : Option Addr} {n c : Nat} {b : Option Addr} {k d : Nat} {m : Syst} (A : SysArg w a n c b k d m) (hv : sysB m = true) {st : Nat} (hst : st < k) :
    Calls Tryz.prog 33 #[.agg #[.slice a n c, .slice b k d], .int .i64 st] w fun e w' => ∃ v L, e = .returned v ∧ OrdIs m st L ∧ NumO w' w.heap.size v (zs L) ∧ Below w.heap.size w w' := by
  obtain ⟨i1, hi1, hz10, hz11, hz12⟩ := info_parts infoNumS
  obtain ⟨i2, hi2, hz20, hz21, hz22⟩ := info_parts infoBoolV
  have hk5 : k ≤ 5000 := by have := ((sysB_iff m).1 hv).2.2.1; have := A.len; omega
  have hb0 := (Below.refl w.heap.size w).alloc (Nat.le_refl _) (.cells #[.slice a n c, .slice b k d] 25)
  have h1 := Whole.new w 25 #[.slice a n c, .slice b k d]
  obtain ⟨w0, HW0⟩ : ∃ z, Hid (w.alloc (.cells #[.slice a n c, .slice b k d] 25) = z) := ⟨_, Lib.hid rfl⟩
  rw [HW0.out] at hb0 h1
  have HA := Lib.hid (A.below hb0)
  have HV := Lib.hid hv
  have HB0 := Lib.hid hb0
  have H1 := Lib.hid h1
  have HKl : Hid (m.states.length = k) := Lib.hid A.len.symm
  have q1 : w0.cell? ⟨w.heap.size, 1, none⟩ = some (.slice b k d) := h1.cell 1
  clear A hv hb0 h1
  go_enter Tryz.func33, Tryz.ntmps33
  go_wp2_with (at_make; rw [HW0.out]; refine wpList_make_full _ rfl _ _ 95 rfl w0.heap.size 4 i2 (.bool false) 1 Tryz.underlying95 hi2 hz20 hz21 .i64 .i64 k k k rfl rfl rfl rfl (by rw [hz22]; omega) (by unfold maxLen; omega) (Nat.le_refl _) ?_; intro w1 hrow hg1; refine Hid.out ?_)
  rw [made_falses, ← marksL_none] at hrow
  obtain ⟨M, HMn⟩ : ∃ z, Hid (w0.heap.size = z) := ⟨_, Lib.hid rfl⟩
  have hrow' : w1.ownsRow w0.heap.size 4 1 (.slice (some ⟨M, 0, none⟩) k k) k (marksL k []) := by rw [← HMn.out]; exact hrow
  have HO : Hid (OrAt w0 w1 M k (.slice none 0 0) []) := Lib.hid ⟨World.ownsRow_nil _ _ _ _, hrow', below_up hg1⟩
  rw [HMn.out]
  have c1 := hrow'.cellAt st (by omega)
  rw [marksL_at _ hst] at c1
  simp only [List.not_mem_nil, decide_false] at c1
  have c2 := hrow'.frozenAt st
  obtain ⟨wS, HwS⟩ : ∃ z, Hid (w1.setCell ⟨M, st, none⟩ (.bool true) = z) := ⟨_, Lib.hid rfl⟩
  have hS := HO.out.mar.stored st (.bool true)
  rw [marksL_put hst (by simp)] at hS
  have hbS := HO.out.below.setCell (show w0.heap.size ≤ M from own_ge hrow' _ rfl) (p := ⟨M, st, none⟩) (.bool true)
  rw [HwS.out] at hS hbS
  have hal := (Below.refl wS.heap.size wS).alloc (Nat.le_refl _) (.cells #[.int .i64 (st : Int)] 3)
  have hlit : (wS.alloc (.cells #[.int .i64 (st : Int)] 3)).ownsRow w0.heap.size 3 1 (.slice (some ⟨wS.heap.size, 0, none⟩) 1 1) 1 [.int .i64 (st : Int)] := World.ownsRow_lit (base := w0.heap.size) (e := 3) (size := 1) wS #[.int .i64 (st : Int)] 1 hbS.size (by unfold maxLen; omega) rfl
  have HO1 : Hid (OrAt w0 (wS.alloc (.cells #[.int .i64 (st : Int)] 3)) M k (.slice (some ⟨wS.heap.size, 0, none⟩) 1 1) (ordQ m st 0)) := Lib.hid ⟨hlit, own_up' hS.1 hal, hbS.trans (hal.mono hbS.size)⟩
  have hzS : wS.heap.size = w1.heap.size := by rw [← HwS.out]; simp
  rw [hzS] at HO1
  have HSt0 : Hid (OStp m st 0) := Lib.hid (fun j hj => by omega)
  have hst0 : (0 : Int) ≤ (st : Int) := by omega
  have hst1 : (st : Int) < (k : Int) := by omega
  clear hrow hg1 q1 hrow' hS hbS hal hlit hzS HO
  refine Lib.hid ?_
  go_wp2
  rw [HwS.out]
  clear c1 c2
  go_loopw [6, 7, 9, 34] (fun lv iv _ _ wr => ∃ (i : Nat) (la : Option Addr) (ln lc : Nat), iv = .int .i64 i ∧ lv = .slice la ln lc ∧ i ≤ ln ∧ ln ≤ 5000 ∧ Hid (OStp m st i) ∧ Hid (OrAt w0 wr M k (.slice la ln lc) (ordQ m st i))) (fun _ iv _ _ _ => 5001 - (intOf iv).toNat)
  case atStart => exact ⟨0, _, 1, 1, rfl, rfl, by omega, by omega, HSt0, HO1⟩
  case round =>
    as_aux_lemma =>
    obtain ⟨w3, hw3⟩ : ∃ z, z = wr := ⟨_, rfl⟩
    subst hw3
    obtain ⟨i, la, ln, lc, rfl, rfl, hil, hl5, hSt, hO⟩ := hrel
    have HOk := Lib.hid (ordQ_ok HV.out (show st < m.states.length by have := HKl.out; omega) i hSt.out)
    obtain ⟨l, HLq⟩ : ∃ z, Hid (ordQ m st i = z) := ⟨_, Lib.hid rfl⟩
    rw [HLq.out] at hO HOk
    have hrow : w3.ownsRow w0.heap.size 3 1 (.slice la ln lc) (zs l).length ((zs l).map (Value.int .i64)) := hO.out.lst
    have hls := own_some hrow
    rw [zs_len] at hls
    have HLl : Hid (l.length = ln) := Lib.hid hls.1.symm
    have HZl : Hid ((zs l).length = ln) := Lib.hid (by rw [zs_len, HLl.out])
    rw [HZl.out] at hrow
    by_cases hlt : i < ln
    · have hii : i < l.length := by rw [HLl.out]; exact hlt
      obtain ⟨lb, rfl⟩ := hls.2 (by omega)
      obtain ⟨x, HX⟩ : ∃ x, Hid (l[i]? = some x) := ⟨_, Lib.hid (List.getElem?_eq_getElem hii)⟩
      have c0 : w3.cell? ⟨lb, i, none⟩ = some (.int .i64 (x : Int)) := by
        rw [hrow.cellAt i (by omega)]
        exact zs_cell HX.out
      have hxm := HOk.out.2 x (List.mem_of_getElem? HX.out)
      have HXm := Lib.hid hxm
      obtain ⟨bx, off, rfl, ai, ni, ci, e11, hE⟩ := HA.out.rows x hxm
      have e10 := (hO.out.below.cell (lt_of_cell e11)).trans e11
      have y1 := (H1.out.below hO.out.below H1.out.lt).cell 1
      simp only [List.getElem?_toArray, List.getElem?_cons_succ, List.getElem?_cons_zero] at y1
      have HE := Lib.hid hE
      have hX0 : (0 : Int) ≤ (x : Int) := by omega
      have hX1 : (x : Int) < (k : Int) := by have := HKl.out; omega
      have hI0 : (0 : Int) ≤ (i : Int) := by omega
      have hI1 : (i : Int) < (ln : Int) := by omega
      have HEl : Hid ((stAt m.states x).length = ni) := Lib.hid hE.len.symm
      have hni : ni ≤ 400000 := by
        have h3 := hE.len
        have h4 := total_take m.states x hxm
        have h5 := total_take_le m.states (x + 1)
        have := ((sysB_iff m).1 HV.out).2.2.2.2
        omega
      have HOd : Hid (∀ q, OrAt w0 (w3.drewN q) M k (.slice (some ⟨lb, 0, none⟩) ln lc) (ordE l ((stAt m.states x).take 0))) := Lib.hid (fun q => hO.out.up (below_drewN (Below.refl _ _) q))
      have HNx : Hid (ordQ m st (i + 1) = ordE l (stAt m.states x)) := Lib.hid (by
        show ordE (ordQ m st i) (stAt m.states ((ordQ m st i).getD i 0)) = _
        rw [HLq.out, List.getD_eq_getElem?_getD, HX.out]
        rfl)
      have HSn : Hid (OStp m st (i + 1)) := Lib.hid (steps_next hSt.out (by rw [HLq.out]; exact hii))
      clear hrow hls hE hxm e11 hO hii
      go_wp2
      go_quiet (fail)
      go_wp2
      go_loopw [6, 9, 34] (fun lv _ q wr => ∃ (j : Nat) (la : Option Addr) (n2 lc : Nat), q = .int .i64 j ∧ j ≤ ni ∧ lv = .slice la n2 lc ∧ ln ≤ n2 ∧ n2 ≤ 5000 ∧ Hid (OrAt w0 wr M k (.slice la n2 lc) (ordE l ((stAt m.states x).take j)))) (fun _ _ q _ => ni - (intOf q).toNat)
      case atStart => exact ⟨0, _, _, _, rfl, Nat.zero_le _, rfl, Nat.le_refl _, hl5, Lib.hid (HOd.out _)⟩
      case round =>
        as_aux_lemma =>
        obtain ⟨w8, hw8⟩ : ∃ z, z = wr := ⟨_, rfl⟩
        subst hw8
        obtain ⟨j, la, n2, lc, rfl, hj, rfl, hn2, hn5, hOj⟩ := hrel
        clear c0 e10 y1 hX0 hX1 hI0 hI1 HOd
        by_cases hlt4 : j < ni
        · have hjl : j < (stAt m.states x).length := by have := HEl.out; omega
          obtain ⟨be, oe, rfl, d1, d2⟩ := (HE.out.cells.below hOj.out.below) j hjl
          have hef := edge_ok HV.out HXm.out hjl
          obtain ⟨u, HU⟩ : ∃ z, Hid ((edAt (stAt m.states x) j).1 = z) := ⟨_, Lib.hid rfl⟩
          obtain ⟨v, hvv⟩ := Int.eq_ofNat_of_zero_le hef.2.2.1
          have HVv : Hid ((edAt (stAt m.states x) j).2.toNat = v) := Lib.hid (by rw [hvv]; rfl)
          rw [HU.out] at d1
          rw [hvv] at d2
          have hvk : v < k := by have := hef.2.2.2; have := HKl.out; omega
          have HNj := Lib.hid (ordE_next (l := l) hjl)
          have HOk2 := Lib.hid (ordE_ok HV.out HXm.out HOk.out (j + 1) (by omega))
          rw [HVv.out] at HNj
          obtain ⟨ac, HAc⟩ : ∃ z, Hid (ordE l ((stAt m.states x).take j) = z) := ⟨_, Lib.hid rfl⟩
          rw [HAc.out] at HNj hOj
          have hrow : w8.ownsRow w0.heap.size 3 1 (.slice la n2 lc) (zs ac).length ((zs ac).map (Value.int .i64)) := hOj.out.lst
          have HN2 : Hid ((zs ac).length = n2) := Lib.hid (own_some hrow).1.symm
          have hal : Below w8.heap.size w8 (w8.alloc (.cells #[.int .i64 u, .int .i64 (v : Int)] 71)) := (Below.refl _ w8).alloc (Nat.le_refl _) _
          have hWe := Whole.new w8 71 #[.int .i64 u, .int .i64 (v : Int)]
          have hOe := hOj.out.up hal
          have t3 := hOe.mar.cellAt v (by omega)
          rw [marksL_at _ hvk] at t3
          have t4 := hOe.mar.frozenAt v
          have t1 := hWe.cell 1
          simp only [List.getElem?_toArray, List.getElem?_cons_succ, List.getElem?_cons_zero] at t1
          have HOe := Lib.hid hOe
          have hv0 : (0 : Int) ≤ (v : Int) := by omega
          have hv1 : (v : Int) < (k : Int) := by omega
          by_cases hin : v ∈ ac
          · rw [decide_eq_true hin] at t3
            have HOn : Hid (OrAt w0 (w8.alloc (.cells #[.int .i64 u, .int .i64 (v : Int)] 71)) M k (.slice la n2 lc) (ordE l ((stAt m.states x).take (j + 1)))) := Lib.hid (by
              rw [HNj.out]
              unfold cAdd
              rw [if_pos hin]
              exact HOe.out)
            clear hin hrow hal hWe hOe hef hvv hjl
            go_wp2
            go_roundw
            case rel => exact ⟨j + 1, _, _, _, by go_num, by omega, rfl, hn2, hn5, HOn⟩
            case measure => simp [intOf]; omega
          · rw [decide_eq_false hin] at t3
            have HIn := Lib.hid hin
            have hac5 : n2 + 1 ≤ 5000 := by
              have h7 := HOk2.out.len
              rw [HNj.out] at h7
              unfold cAdd at h7
              rw [if_neg hin, List.length_append, List.length_singleton] at h7
              have h8 := HN2.out
              rw [zs_len] at h8
              have := HKl.out
              omega
            have hWs : Whole ((w8.alloc (.cells #[.int .i64 u, .int .i64 (v : Int)] 71)).setCell ⟨M, v, none⟩ (.bool true)) w8.heap.size 71 #[.int .i64 u, .int .i64 (v : Int)] := hWe.grown (grown_self _ ⟨M, v, none⟩ (.bool true)) (own_whole hOe.mar hWe (by decide))
            have s1 := hWs.cell 1
            simp only [List.getElem?_toArray, List.getElem?_cons_succ, List.getElem?_cons_zero] at s1
            obtain ⟨w9, Hw9⟩ : ∃ z, Hid ((w8.alloc (.cells #[.int .i64 u, .int .i64 (v : Int)] 71)).setCell ⟨M, v, none⟩ (.bool true) = z) := ⟨_, Lib.hid rfl⟩
            have hrow9 : w9.ownsRow w0.heap.size 3 1 (.slice la n2 lc) (zs ac).length ((zs ac).map (Value.int .i64)) := by
              rw [← Hw9.out]
              exact World.ownsRow.kept hOe.lst (grown_self _ ⟨M, v, none⟩ (.bool true)) (own_apart hOe.lst hOe.mar (by decide))
            rw [HN2.out] at hrow9
            have HR9 := Lib.hid (hrow9.alloc (.cells #[.int .i64 (v : Int)] 3))
            have hz9 : w0.heap.size ≤ w9.heap.size := by
              have h7 := hOe.below.size
              rw [← Hw9.out]
              simpa using h7
            clear hin hrow hal hWe hOe hef hvv hjl hWs hrow9
            go_upto_region 12 with (fail)
            rw [Hw9.out]
            rw [Hw9.out] at s1
            clear t1 t3 t4 d1 d2
            go_wp2_with (at_builtin; (refine wpList_append_sz rfl (.tmp 48) (.tmp 51) 28 rfl w0.heap.size 3 i1 (.int .i64 0) 1 8 Tryz.underlying28 hi1 hz10 hz11 hz12 rfl (by decide) (.slice la n2 lc) rfl n2 ((zs ac).map (Value.int .i64)) HR9.out (some ⟨w9.heap.size, 0, none⟩) 1 1 rfl [.int .i64 (v : Int)] (fun h => by cases h) rfl (one_src _ _ _) (by simp [Value.oneCell']) (by unfold maxLen; omega) (by omega) (by simp; omega) ?_); intro v2 w2 hv2 hg2 hat2; refine Hid.out ?_)
            refine Lib.hid ?_
            obtain ⟨va, vc, rfl⟩ := own_slice' hv2
            have HOn : Hid (OrAt w0 w2 M k (.slice va (n2 + 1) vc) (ordE l ((stAt m.states x).take (j + 1)))) := Lib.hid (by
              rw [HNj.out]
              refine HOe.out.next hvk HIn.out (X := w9) (o := .cells #[.int .i64 (v : Int)] 3) (by rw [Hw9.out]; exact Below.refl _ _) hg2 ?_
              rw [HN2.out]
              exact hv2)
            clear hv2 hg2 hat2 s1 hz9
            go_wp2
            go_roundw
            case rel => exact ⟨j + 1, _, _, _, by go_num, by omega, rfl, by omega, hac5, HOn⟩
            case measure => simp [intOf]; omega
        · have hjn : ni = j := by omega
          subst hjn
          have HOn : Hid (OrAt w0 w8 M k (.slice la n2 lc) (ordQ m st (i + 1))) := Lib.hid (by
            have h7 := hOj.out
            rw [List.take_of_length_le (by rw [HEl.out]; exact Nat.le_refl _)] at h7
            rw [HNx.out]
            exact h7)
          go_wp2
          go_roundw
          case rel => exact ⟨i + 1, _, _, _, by go_num, rfl, by omega, hn5, HSn, HOn⟩
          case measure => simp [intOf]; omega
    · have HIs : Hid (OrdIs m st l) := Lib.hid ⟨i, hSt.out, by rw [HLq.out, HLl.out]; omega, HLq.out.symm⟩
      have HR : Hid (NumO w3 w.heap.size (.slice la ln lc) (zs l)) := Lib.hid (own_low hO.out.lst HB0.out.size)
      have HB := Lib.hid (HB0.out.trans (hO.out.below.mono HB0.out.size))
      clear hrow hls
      go_wp2
      go_ret
      exact ⟨_, l, rfl, HIs.out, HR.out, HB.out⟩
end Go.Proofs.YtohljainhkdiiaaGreatDoor
/- Plain facts: an edge put into a row in its order, the numbers of the states of a list, the system of these states; nothing here is about a program. -/
namespace Go.Proofs.YtohljainhkdiiaaGreatDoor.Pl
open Go Go.Lib

def insE : List Edg → Edg → List Edg
  | [], e => [e]
  | d :: l, e => if ltE d e = true then d :: insE l e else if d = e then d :: l else e :: d :: l
theorem insE_len : ∀ (l : List Edg) (e : Edg), (insE l e).length ≤ l.length + 1
  | [], _ => by simp [insE]
  | d :: l, e => by
    have := insE_len l e
    unfold insE
    split
    · simp only [List.length_cons]; omega
    · split
      · simp only [List.length_cons]; omega
      · simp only [List.length_cons]; omega
/-- the place of an edge -/
structure AtE (l : List Edg) (e : Edg) (p : Nat) : Prop where
  le : p ≤ l.length
  low : ∀ i, i < p → ltE (edAt l i) e = true
  stop : p < l.length → ltE (edAt l p) e = false
def withE (l : List Edg) (e : Edg) (p : Nat) : List Edg := if p < l.length ∧ edAt l p = e then l else l.take p ++ [e] ++ l.drop p
theorem withE_ins : ∀ (l : List Edg) (e : Edg) (p : Nat), AtE l e p → withE l e p = insE l e
  | [], e, p, h => by
    have := h.le
    obtain rfl : p = 0 := by simpa using this
    simp [withE, insE]
  | d :: l, e, 0, h => by
    have h1 : ltE d e = false := h.stop (by simp)
    unfold withE insE
    rw [h1]
    by_cases e9 : d = e
    · simp [edAt, e9]
    · simp [edAt, e9]
  | d :: l, e, p + 1, h => by
    have h1 : ltE d e = true := h.low 0 (by omega)
    have h2 : AtE l e p := ⟨by have := h.le; simp at this; omega, fun i hi => h.low (i + 1) (by omega), fun hp => h.stop (by simpa using hp)⟩
    have ih := withE_ins l e p h2
    unfold insE
    rw [if_pos h1, ← ih]
    unfold withE
    have e9 : edAt (d :: l) (p + 1) = edAt l p := rfl
    rw [e9]
    by_cases hc : p < l.length ∧ edAt l p = e
    · rw [if_pos hc, if_pos ⟨by simp; exact hc.1, hc.2⟩]
    · rw [if_neg hc, if_neg (fun h => hc ⟨by simpa using h.1, h.2⟩)]
      simp
/-- the edges with their targets' numbers -/
def edP (tq : List Int) (es : List Edg) : List Edg := es.foldl (fun acc e => insE acc (e.1, tq.getD e.2.toNat 0)) []
theorem edP_next {tq : List Int} {es : List Edg} {j : Nat} (hj : j < es.length) : edP tq (es.take (j + 1)) = insE (edP tq (es.take j)) ((edAt es j).1, tq.getD (edAt es j).2.toNat 0) := by
  have e2 : edAt es j = es[j] := by simp [edAt, List.getD, hj]
  rw [e2]
  unfold edP
  rw [List.take_succ_eq_append_getElem hj, List.foldl_append]
  rfl
theorem edP_len (tq : List Int) (es : List Edg) : ∀ j, j ≤ es.length → (edP tq (es.take j)).length ≤ j
  | 0, _ => by simp [edP]
  | j + 1, hj => by
    have ih := edP_len tq es j (by omega)
    have h2 := insE_len (edP tq (es.take j)) ((edAt es j).1, tq.getD (edAt es j).2.toNat 0)
    rw [edP_next (by omega)]
    omega
/-- the numbers, behind the first i states of the list -/
def toK (k : Nat) (L : List Nat) : Nat → List Int
  | 0 => List.replicate k 0
  | i + 1 => (toK k L i).set (L.getD i 0) i
theorem toK_len (k : Nat) (L : List Nat) : ∀ i, (toK k L i).length = k
  | 0 => by simp [toK]
  | i + 1 => by rw [toK, List.length_set]; exact toK_len k L i
def partS (m : Syst) (L : List Nat) : Syst := ⟨m.acts, L.map fun x => edP (toK m.states.length L L.length) (stAt m.states x)⟩
theorem partS_row {m : Syst} {L : List Nat} {j : Nat} (hj : j < L.length) : stAt (partS m L).states j = edP (toK m.states.length L L.length) (stAt m.states (L.getD j 0)) := by
  unfold partS stAt
  simp only
  rw [List.getD_eq_getElem?_getD, List.getElem?_map, List.getElem?_eq_getElem hj]
  simp [List.getD_eq_getElem?_getD, List.getElem?_eq_getElem hj]
end Go.Proofs.YtohljainhkdiiaaGreatDoor.Pl
