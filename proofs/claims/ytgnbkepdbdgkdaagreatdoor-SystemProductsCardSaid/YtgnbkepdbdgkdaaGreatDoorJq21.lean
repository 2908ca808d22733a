/- Texts joined: Numb2, Joint. -/
import Derived.Test.YtgnbkepdbdgkdaaGreatDoorJq11
import Derived.Test.YtgnbkepdbdgkdaaGreatDoorJq18
import Derived.Test.YtgnbkepdbdgkdaaGreatDoorJq20
import Derived.ChangeKeysEq
/- A list of different pairs with their numbers: a map whose keys are arrays, and a row, in a structure. -/
namespace Go.Proofs.YtgnbkepdbdgkdaaGreatDoor
open Go.RowKit Pl

/-! ### keys of two numbers -/
def keyP (x : P2) : Value := .agg #[.int .i64 (x.1 : Int), .int .i64 (x.2 : Int)]
theorem eqK (x y : P2) (w : World) : (Op.equal 48 (keyP x) (keyP y)).run Tryz.prog w = .ok (decide (x = y)) w := by
  obtain ⟨i, hi, _, _, _⟩ := info_parts infoInt
  have u3 := Tryz.underlying3
  have a3 := Tryz.isAgg3
  have z3 := Tryz.sizeOf3
  have hc : Tryz.prog.cellsOf 3 = 1 := by kernel_rfl
  unfold Op.equal keyP
  rw [show (Op.maxDepth : Nat) = 9999 + 1 from rfl, run_equalIn_array w 9999 _ _ Tryz.underlying48 hi, hc, show List.range 2 = [0, 1] from rfl]
  simp only [Op.eqItems]
  by_cases h1 : x.1 = y.1
  · by_cases h2 : x.2 = y.2
    · have e : x = y := Prod.ext h1 h2
      subst e
      go_simp
    · have e : decide (x = y) = false := decide_eq_false (fun e => h2 (by rw [e]))
      have e2 : ((x.2 : Int) == (y.2 : Int)) = false := by simp; omega
      have e3 : decide ((x.2 : Int) = (y.2 : Int)) = false := by simp; omega
      rw [e, h1]
      go_simp
  · have e : decide (x = y) = false := decide_eq_false (fun e => h1 (by rw [e]))
    have e2 : ((x.1 : Int) == (y.1 : Int)) = false := by simp; omega
    have e3 : decide ((x.1 : Int) = (y.1 : Int)) = false := by simp; omega
    rw [e]
    go_simp
theorem chkK (em : Bool) (x : P2) (w : World) : (Instr.checkKey em 10000 48 (keyP x)).run Tryz.prog w = .ok () w := by
  have u2 := Tryz.underlying48
  have u3 := Tryz.underlying3
  have a3 := Tryz.isAgg3
  have z3 := Tryz.sizeOf3
  have hk : ∀ (v : Int) (w : World), (Instr.checkKey em 9999 3 (.int .i64 v)).run Tryz.prog w = .ok () w := fun v w => MapKept.run_checkKey (k := .int .i64 v) u3 (by simp [MapKept.IsKey]) em 9998
  unfold keyP
  rw [show (10000 : Nat) = 9999 + 1 from rfl]
  unfold Instr.checkKey
  simp only [Sem.run_bind, run_underlying u2, Result.andThen_ok, Std.Legacy.Range.forIn_eq_forIn_range', Std.Legacy.Range.size, Nat.sub_zero, Nat.add_one_sub_one, Nat.div_one]
  rw [show List.range' 0 2 = [0, 1] from rfl]
  simp only [List.forIn_cons, List.forIn_nil, Sem.run_bind]
  go_simp
def npL : List P2 → Nat → List MapEntry
  | [], _ => []
  | x :: l, i => { key := keyP x, val := .int .i64 i, born := i } :: npL l (i + 1)
theorem npL_snoc (x : P2) : ∀ (l : List P2) (i : Nat), npL l i ++ [{ key := keyP x, val := .int .i64 ((i + l.length : Nat) : Int), born := i + l.length }] = npL (l ++ [x]) i
  | [], i => by simp [npL]
  | y :: l, i => by
    have h := npL_snoc x l (i + 1)
    simp only [npL, List.cons_append, List.length_cons]
    rw [← h, show i + 1 + l.length = i + (l.length + 1) by omega]
theorem find_np (x : P2) (w : World) : ∀ (l : List P2) (i s : Nat), (Instr.findAsking 48 (keyP x) (npL l i) s).run Tryz.prog w = .ok (if x ∈ l then some (s + l.idxOf x, .int .i64 ((i + l.idxOf x : Nat) : Int)) else none) w
  | [], i, s => by simp [npL, Instr.findAsking]
  | y :: l, i, s => by
    have ih := find_np x w l (i + 1) (s + 1)
    simp only [npL, Instr.findAsking, Sem.run_bind, eqK, Result.andThen_ok]
    by_cases e : x = y
    · subst e
      simp
    · have e3 : (y == x) = false := by
        rw [Bool.eq_false_iff, Ne, beq_iff_eq]
        exact fun h => e h.symm
      have e4 : (y :: l).idxOf x = l.idxOf x + 1 := by rw [List.idxOf_cons, e3]; rfl
      have hd : decide (x = y) = false := decide_eq_false e
      rw [hd]
      simp only [Bool.false_eq_true, if_false, ih, List.mem_cons, e, false_or, e4]
      by_cases h : x ∈ l
      · rw [if_pos h, if_pos h, show s + 1 + l.idxOf x = s + (l.idxOf x + 1) by omega, show i + 1 + l.idxOf x = i + (l.idxOf x + 1) by omega]
      · rw [if_neg h, if_neg h]
theorem findKey_np (x : P2) (w : World) (l : List P2) : (Instr.findKey 48 (keyP x) (npL l 0)).run Tryz.prog w = .ok (if x ∈ l then some (l.idxOf x, .int .i64 ((l.idxOf x : Nat) : Int)) else none) w := by
  have h := find_np x w l 0 0
  simp only [Nat.zero_add] at h
  cases l with
  | nil => simp [Instr.findKey, run_underlying Tryz.underlying48, Result.andThen, npL, Instr.findNow]
  | cons y l =>
    have h0 : ∀ d, Instr.findNow d (keyP x) (npL (y :: l) 0) 0 = none := fun d => by
      simp [npL, Instr.findNow, keyP, Instr.sameNow]
    simp only [Instr.findKey, Sem.run_bind, run_underlying Tryz.underlying48, Result.andThen_ok, h0]
    exact h
theorem look_hitP {w : World} {r clock : Nat} {L : List P2} {x : P2} (hb : w.heap[r]? = some (.map (npL L 0).toArray clock)) (hx : x ∈ L) :
    (Instr.lookup 109 (.map (some r)) (keyP x) true).run Tryz.prog w = .ok (.tuple #[.int .i64 ((L.idxOf x : Nat) : Int), .bool true]) w := by
  have hc := chkK (npL L 0).isEmpty x w
  have hf := findKey_np x w L
  rw [if_pos hx] at hf
  have hm := Tryz.underlying109
  simp [Instr.lookup, run_underlying hm, MapKept.run_getObj_map hb, hc, hf, Result.andThen]
theorem look_noP {w : World} {r clock : Nat} {L : List P2} {x : P2} (hb : w.heap[r]? = some (.map (npL L 0).toArray clock)) (hx : x ∉ L) :
    (Instr.lookup 109 (.map (some r)) (keyP x) true).run Tryz.prog w = .ok (.tuple #[.int .i64 0, .bool false]) w := by
  have hc := chkK (npL L 0).isEmpty x w
  have hf := findKey_np x w L
  rw [if_neg hx] at hf
  have hm := Tryz.underlying109
  have hz := Tryz.zeroValue3 w
  simp [Instr.lookup, run_underlying hm, MapKept.run_getObj_map hb, hc, hf, Result.andThen, hz]
theorem upd_newP {w : World} {r clock : Nat} {L : List P2} {x : P2} {val : Value} (hb : w.heap[r]? = some (.map (npL L 0).toArray clock)) (hx : x ∉ L) :
    (Instr.mapUpdate 109 (.map (some r)) (keyP x) val).run Tryz.prog w = .ok () { w with heap := w.heap.setIfInBounds r (.map ((npL L 0).toArray.push { key := keyP x, val := val, born := clock }) (clock + 1)) } := by
  have hc := chkK false x w
  have hf := findKey_np x w L
  rw [if_neg hx] at hf
  have hm := Tryz.underlying109
  simp [Instr.mapUpdate, run_underlying hm, MapKept.run_getObj_map hb, hc, hf, MapKept.run_setObj_map _ hb, Result.andThen]
/-- a list of pairs with their numbers -/
structure NpAt (W : World) (B nb M : Nat) (sv : Value) (L : List P2) : Prop where
  box : Whole W nb 111 #[sv, .map (some M)]
  tab : W.heap[M]? = some (.map (npL L 0).toArray L.length)
  lst : W.ownsRow B 48 2 sv L.length (pcells L)
section
variable {W W' : World} {B nb M : Nat} {sv : Value} {L : List P2}
theorem NpAt.alloc (h : NpAt W B nb M sv L) (o : Obj) : NpAt (W.alloc o) B nb M sv L :=
  ⟨h.box.alloc o, tab_kept h.tab (World.grownBy_alloc W o none) (by simp), World.ownsRow.alloc h.lst o⟩
theorem NpAt.drew (h : NpAt W B nb M sv L) : NpAt W.drew B nb M sv L := ⟨h.box, h.tab, h.lst⟩
theorem NpAt.below (h : NpAt W B nb M sv L) (hb : Below W.heap.size W W') : NpAt W' B nb M sv L :=
  ⟨up_whole hb h.box, tab_kept h.tab (below_grown hb) (by simp), own_up' h.lst hb⟩
theorem NpAt.grown {base : Nat} {v : Value} {e : TypeId} {size n : Nat} {xs : List Value} (h : NpAt W B nb M sv L) (hg : W.grownBy W' v.ownBlock) (hO : W.ownsRow base e size v n xs) (h1 : e ≠ 48) (h2 : e ≠ 111) : NpAt W' B nb M sv L :=
  ⟨h.box.grown hg (own_whole hO h.box h2), tab_kept h.tab hg (tab_own h.tab hO), World.ownsRow.kept h.lst hg (own_apart h.lst hO (Ne.symm h1))⟩
theorem NpAt.low {B' : Nat} (h : NpAt W B nb M sv L) (hb : B' ≤ B) : NpAt W B' nb M sv L := ⟨h.box, h.tab, own_low h.lst hb⟩
/-- a store into another structure -/
theorem NpAt.put (h : NpAt W B nb M sv L) {g : Nat} {t : TypeId} {cs : Array Value} (hw : Whole W g t cs) (h1 : t ≠ 48) (h2 : t ≠ 111) (q : Nat) (v : Value) : NpAt (W.setCell ⟨g, q, none⟩ v) B nb M sv L :=
  ⟨h.box.far (fun e => whole_ne h.box hw (Ne.symm h2) e) _, tab_kept h.tab (grown_self W ⟨g, q, none⟩ v) (fun e => tab_whole h.tab hw (by simpa using e.symm)), own_stored h.lst hw (Ne.symm h1)⟩
end

theorem infoPair2 : (Tryz.prog.info? 48).map (fun i => (i.zero, i.size, i.bytes)) = some (some (.agg #[.int .i64 0, .int .i64 0]), 2, 16) := by kernel_rfl
theorem pcells_snoc2 (L : List P2) (x : P2) : pcells (L ++ [x]) = pcells L ++ [.int .i64 x.1, .int .i64 x.2] := pcells_snoc L x.1 x.2

set_option maxRecDepth 100000 in
set_option maxHeartbeats 1000000 in
theorem numberP_any {w : World} {B nb M : Nat} {sv : Value} {L : List P2} (h : NpAt w B nb M sv L) (hB : B ≤ w.heap.size) (hL : L.length ≤ 1000000) (p q : Nat) :
    Calls Tryz.prog 96 #[.pointer (some ⟨nb, 0, none⟩), .agg #[.int .i64 (p : Int), .int .i64 (q : Int)]] w fun e w' => ∃ sv', e = .returned (.int .i64 (((pAdd L (p, q)).idxOf (p, q) : Nat) : Int)) ∧ NpAt w' B nb M sv' (pAdd L (p, q)) ∧ Kp w w' (fun k => k = nb ∨ k = M ∨ some k = sv.ownBlock) ∧ (sv'.ownBlock = sv.ownBlock ∨ ∃ r, sv'.ownBlock = some r ∧ w.heap.size ≤ r) := by
  obtain ⟨i1, hi1, hz10, hz11, hz12⟩ := info_parts infoPair2
  have h0 := h.alloc (.cells #[.int .i64 (p : Int), .int .i64 (q : Int)] 48)
  have hx0 := Whole.new w 48 #[.int .i64 (p : Int), .int .i64 (q : Int)]
  have hk0 : Kp w (w.alloc (.cells #[.int .i64 (p : Int), .int .i64 (q : Int)] 48)) (fun _ => False) := Kp.of_below ((Below.refl _ w).alloc (Nat.le_refl _) _) _
  have hB0 : B ≤ (w.alloc (.cells #[.int .i64 (p : Int), .int .i64 (q : Int)] 48)).heap.size := Nat.le_trans hB hk0.size
  obtain ⟨w0, HW0⟩ : ∃ z, Hid (w.alloc (.cells #[.int .i64 (p : Int), .int .i64 (q : Int)] 48) = z) := ⟨_, Lib.hid rfl⟩
  obtain ⟨b, HBx⟩ : ∃ z, Hid (w.heap.size = z) := ⟨_, Lib.hid rfl⟩
  rw [HW0.out] at h0 hx0 hk0 hB0
  rw [HBx.out] at hx0
  have H := Lib.hid h0
  have HK0 := Lib.hid hk0
  have k0 := h0.box.cell 0
  have k1 := h0.box.cell 1
  have b0 := hx0.cell 0
  have b1 := hx0.cell 1
  simp only [List.getElem?_toArray, List.getElem?_cons_succ, List.getElem?_cons_zero] at k0 k1 b0 b1
  by_cases hin : (p, q) ∈ L
  · have look : ∀ W : World, W.heap = w0.heap → (Instr.lookup 109 (.map (some M)) (.agg #[.int .i64 (p : Int), .int .i64 (q : Int)]) true).run Tryz.prog W = .ok (.tuple #[.int .i64 ((L.idxOf (p, q) : Nat) : Int), .bool true]) W := fun W hW => look_hitP (by rw [hW]; exact h0.tab) hin
    have look1 := look w0.drew rfl
    have HC : Hid (pAdd L (p, q) = L) := Lib.hid (by unfold pAdd; rw [if_pos hin])
    clear h h0 hin look hx0 hk0
    go_enter Tryz.func96, Tryz.ntmps96
    go_upto_region 1 with (fail)
    rw [HW0.out, HBx.out]
    go_region
    go_wp2
    go_ret
    rw [HC.out]
    exact ⟨_, rfl, H.out.drew, ⟨HK0.out.os, HK0.out.tape, HK0.out.output, HK0.out.size, fun k hk hn => HK0.out.block k hk (fun h => h)⟩, .inl rfl⟩
  · have hm0 := tab_kept (W' := w0) h0.tab (row := none) ⟨rfl, rfl, rfl, Nat.le_refl _, fun _ _ _ => rfl⟩ (by simp)
    have look : ∀ W : World, W.heap = w0.heap → (Instr.lookup 109 (.map (some M)) (.agg #[.int .i64 (p : Int), .int .i64 (q : Int)]) true).run Tryz.prog W = .ok (.tuple #[.int .i64 0, .bool false]) W := fun W hW => look_noP (by rw [hW]; exact h0.tab) hin
    have look1 := look w0.drew rfl
    have HC : Hid (pAdd L (p, q) = L ++ [(p, q)]) := Lib.hid (by unfold pAdd; rw [if_neg hin])
    have HIx : Hid ((L ++ [(p, q)]).idxOf (p, q) = L.length) := Lib.hid (by rw [List.idxOf_append, if_neg hin]; simp)
    obtain ⟨la, lc, rfl⟩ := own_slice' h0.lst
    have hsn : (npL L 0).toArray.push { key := keyP (p, q), val := .int .i64 ((L.length : Nat) : Int), born := L.length } = (npL (L ++ [(p, q)]) 0).toArray := by
      have h9 := npL_snoc (p, q) L 0
      simp only [Nat.zero_add] at h9
      rw [← h9]
      simp
    have upd : ∀ W : World, W.heap = w0.heap → (Instr.mapUpdate 109 (.map (some M)) (.agg #[.int .i64 (p : Int), .int .i64 (q : Int)]) (.int .i64 ((L.length : Nat) : Int))).run Tryz.prog W = .ok () { W with heap := W.heap.setIfInBounds M (.map (npL (L ++ [(p, q)]) 0).toArray (L.length + 1)) } := fun W hW => by
      have h9 := upd_newP (w := W) (val := .int .i64 ((L.length : Nat) : Int)) (by rw [hW]; exact h0.tab) hin
      rw [hsn] at h9
      exact h9
    have upd2 := upd w0.drew.drew rfl
    have hg1 := map_grown (w := w0.drew.drew) (r := M) (o := .map (npL (L ++ [(p, q)]) 0).toArray (L.length + 1))
    have ht1 := (MapKept.heap_set (o' := .map (npL (L ++ [(p, q)]) 0).toArray (L.length + 1)) h0.tab).1
    obtain ⟨w1, HW1⟩ : ∃ z, Hid (({ w0.drew.drew with heap := w0.drew.drew.heap.setIfInBounds M (.map (npL (L ++ [(p, q)]) 0).toArray (L.length + 1)) } : World) = z) := ⟨_, Lib.hid rfl⟩
    have ht1' : w1.heap[M]? = some (.map (npL (L ++ [(p, q)]) 0).toArray (L.length + 1)) := by rw [← HW1.out]; exact ht1
    rw [HW1.out] at upd2 hg1
    have hg1 : w0.grownBy w1 (some M) := ⟨hg1.os, hg1.tape, hg1.output, hg1.size, hg1.block⟩
    have hb1 : Whole w1 nb 111 #[.slice la L.length lc, .map (some M)] := h0.box.grown hg1 (fun e => tab_whole h0.tab h0.box (by simpa using e))
    have hl1 : w1.ownsRow B 48 2 (.slice la L.length lc) L.length (pcells L) := World.ownsRow.kept h0.lst hg1 (.inr (tab_own h0.tab h0.lst).symm)
    have hx1 : Whole w1 b 48 #[.int .i64 (p : Int), .int .i64 (q : Int)] := hx0.grown hg1 (fun e => tab_whole h0.tab hx0 (by simpa using e))
    have m0 := hb1.cell 0
    have m1 := hb1.cell 1
    have m2 := hb1.frozen 0
    have m3 := hb1.lt
    have d0 := hx1.cell 0
    have d1 := hx1.cell 1
    simp only [List.getElem?_toArray, List.getElem?_cons_succ, List.getElem?_cons_zero] at m0 m1 d0 d1
    have HG1 := Lib.hid hg1
    have HB1 := Lib.hid hb1
    have HT1 := Lib.hid ht1'
    have HR1 := Lib.hid hl1
    have hz1 : B ≤ w1.heap.size := Nat.le_trans hB0 hg1.size
    clear h h0 hin hsn hg1 ht1 ht1' hb1 hl1 look hx0 hk0 hx1 hm0
    go_enter Tryz.func96, Tryz.ntmps96
    go_upto_region 1 with (fail)
    rw [HW0.out, HBx.out]
    go_region
    go_upto_region 4 with (fail)
    clear look1 upd
    go_region
    go_upto_region 5 with (fail)
    have n0 := cell_new m0 (.cells #[.int .i64 (p : Int), .int .i64 (q : Int)] 48)
    have HO1 := Lib.hid (HR1.out.alloc (.cells #[.int .i64 (p : Int), .int .i64 (q : Int)] 48))
    have HW2 := Lib.hid (HB1.out.alloc (.cells #[.int .i64 (p : Int), .int .i64 (q : Int)] 48))
    have HNe := Lib.hid (own_whole HO1.out HW2.out (by decide))
    go_region_law (first
      | (refine step_append_sz rfl (.tmp 33) (.tmp 35) 39 (by rfl) B 48 i1 (.agg #[.int .i64 0, .int .i64 0]) 2 16 Tryz.underlying39 hi1 hz10 hz11 hz12 rfl (by decide) (.slice la L.length lc) (by rfl) L.length (pcells L) HO1.out (some ⟨w1.heap.size, 0, none⟩) 1 1 (by rfl) [.int .i64 (p : Int), .int .i64 (q : Int)] (fun h => by cases h) rfl (pair_src _ _ _ _) (by simp [Value.oneCell']) (by unfold maxLen; omega) (by omega) (Nat.le_trans hz1 (by simp)) ?_; intro v2 w2 hv2 hg2 hat2; obtain ⟨a2, q2, rfl⟩ := own_slice hv2; have hg2 : (w1.alloc (.cells #[.int .i64 (p : Int), .int .i64 (q : Int)] 48)).grownBy w2 (Value.slice la L.length lc).ownBlock := ⟨hg2.os, hg2.tape, hg2.output, hg2.size, hg2.block⟩; have kW := HW2.out.grown hg2 HNe.out; have f1 := kW.frozen 0; have f2 := kW.cell 0; have f3 := kW.lt; simp only [List.getElem?_toArray, List.getElem?_cons_succ, List.getElem?_cons_zero] at f2)
      | fail)
    all_goals
      have HN : Hid (NpAt (w2.setCell ⟨nb, 0, none⟩ (.slice a2 (L.length + 1) q2)) B nb M (.slice a2 (L.length + 1) q2) (L ++ [(p, q)])) := Lib.hid (by
        have ta : (w1.alloc (.cells #[.int .i64 (p : Int), .int .i64 (q : Int)] 48)).heap[M]? = some (.map (npL (L ++ [(p, q)]) 0).toArray (L.length + 1)) := tab_kept HT1.out (World.grownBy_alloc w1 _ none) (by simp)
        have tb := tab_kept ta hg2 (tab_own ta HO1.out)
        refine ⟨by simpa using kW.set 0 (.slice a2 (L.length + 1) q2), ?_, ?_⟩
        · have tc := tab_kept tb (grown_self w2 ⟨nb, 0, none⟩ (.slice a2 (L.length + 1) q2)) (fun e => tab_whole tb kW (by simpa using e.symm))
          rw [List.length_append, List.length_singleton]
          exact tc
        · rw [pcells_snoc2, List.length_append, List.length_singleton]
          exact own_stored hv2 kW (by decide))
      have HKf : Hid (Kp w (w2.setCell ⟨nb, 0, none⟩ (.slice a2 (L.length + 1) q2)) (fun k => k = nb ∨ k = M ∨ some k = (Value.slice la L.length lc).ownBlock)) := Lib.hid (by
        have b1 : Kp w w1 (fun k => k = nb ∨ k = M ∨ some k = (Value.slice la L.length lc).ownBlock) := (HK0.out.mono (S' := fun k => k = nb ∨ k = M ∨ some k = (Value.slice la L.length lc).ownBlock) (fun _ _ h => h.elim)).trans (Kp.of_grown HG1.out) (fun k _ h => .inr (.inl (by simpa using h)))
        have b2 := b1.trans (Kp.of_below ((Below.refl _ w1).alloc (Nat.le_refl _) (.cells #[.int .i64 (p : Int), .int .i64 (q : Int)] 48)) (fun _ => False)) (fun _ _ h => h.elim)
        have b3 := b2.trans (Kp.of_grown hg2) (fun k _ h => .inr (.inr h))
        exact b3.trans (Kp.of_grown (grown_self w2 ⟨nb, 0, none⟩ (.slice a2 (L.length + 1) q2))) (fun k _ h => .inl (by simpa using h)))
      have HAt : Hid ((Value.slice a2 (L.length + 1) q2).ownBlock = (Value.slice la L.length lc).ownBlock ∨ ∃ r, (Value.slice a2 (L.length + 1) q2).ownBlock = some r ∧ w.heap.size ≤ r) := Lib.hid (by
        rcases hat2 with e | e
        · exact .inl e
        · exact .inr ⟨_, e, Nat.le_trans HK0.out.size (Nat.le_trans HG1.out.size (by simp))⟩)
      clear hv2 hg2 hat2 kW
      go_wp2
      go_ret
      rw [HC.out, HIx.out]
      exact ⟨rfl, .slice a2 (L.length + 1) q2, HN.out, HKf.out, HAt.out⟩
end Go.Proofs.YtgnbkepdbdgkdaaGreatDoor
/- system.countJoint and system.jointEdges: the edges of a pair of states. -/
namespace Go.Proofs.YtgnbkepdbdgkdaaGreatDoor
open Go.RowKit Go.Sort Pl

/-! ### plain: as far as the three loops have come -/
def jP (l k : List Edg) (a i j : Nat) : List Jn := jnt l k a ++ (jntD a ((fanL l a).take i) (fanL k a) ++ jRow a ((fanL k a).take j) (edAt (fanL l a) i))
theorem jP_next {l k : List Edg} {a i j : Nat} (h : j < (fanL k a).length) : jP l k a i (j + 1) = jP l k a i j ++ [((a : Int), ((edAt (fanL l a) i).2.toNat, (edAt (fanL k a) j).2.toNat))] := by
  unfold jP
  rw [jRow_next a h, List.append_assoc, List.append_assoc]
theorem jP_row {l k : List Edg} {a i : Nat} (h : i < (fanL l a).length) : jP l k a i (fanL k a).length = jP l k a (i + 1) 0 := by
  unfold jP
  rw [jntD_next a h, List.take_length]
  simp [jRow]
theorem jP_act (l k : List Edg) (a : Nat) : jP l k a (fanL l a).length 0 = jnt l k (a + 1) := by
  unfold jP
  rw [List.take_length]
  simp [jRow, jnt]
theorem jP_zero (l k : List Edg) (a : Nat) : jP l k a 0 0 = jnt l k a := by
  unfold jP
  simp [jRow, jntD]
theorem jnt_mono (l k : List Edg) (a : Nat) : ∀ d, (jnt l k a).length ≤ (jnt l k (a + d)).length
  | 0 => Nat.le_refl _
  | d + 1 => by
    have ih := jnt_mono l k a d
    have h := jnt_len l k (a + d)
    rw [show a + (d + 1) = a + d + 1 by omega, h]
    exact Nat.le_trans ih (Nat.le_add_right _ _)
theorem jP_len {l k : List Edg} {a i j : Nat} (ha : a < 8) (hi : i < (fanL l a).length) (hj : j ≤ (fanL k a).length) : (jP l k a i j).length ≤ (jnt l k 8).length := by
  have h1 := jnt_mono l k (a + 1) (8 - (a + 1))
  rw [show a + 1 + (8 - (a + 1)) = 8 by omega, jnt_len] at h1
  unfold jP
  rw [List.length_append, List.length_append, jntD_len, jRow_len, List.length_take, List.length_take, Nat.min_eq_left (by omega), Nat.min_eq_left hj]
  have h2 : i * (fanL k a).length + j ≤ (fanL l a).length * (fanL k a).length := by
    have h3 : (i + 1) * (fanL k a).length ≤ (fanL l a).length * (fanL k a).length := Nat.mul_le_mul_right _ (by omega)
    rw [Nat.succ_mul] at h3
    omega
  omega
theorem fan_pos {l : List Edg} (h : ∀ e ∈ l, 0 ≤ e.2) {a i : Nat} (hi : i < (fanL l a).length) : 0 ≤ (edAt (fanL l a) i).2 := by
  have e : edAt (fanL l a) i = (fanL l a)[i] := by simp [edAt, List.getD, hi]
  rw [e]
  exact h _ (fanL_mem (List.getElem_mem hi)).1
/-- the fan of a state, in memory -/
def FanAt (w : World) (g o : Nat) (l : List Edg) : Prop := ∀ a, a < 8 → ∃ ai ni ci, w.cell? ⟨g, o + a, none⟩ = some (.slice ai ni ci) ∧ EdgeArg w ai ni ci (fanL l a)
theorem FanAt.below {w w' : World} {g o : Nat} {l : List Edg} (h : FanAt w g o l) (hb : Below w.heap.size w w') : FanAt w' g o l := fun a ha => by
  obtain ⟨ai, ni, ci, h1, h2⟩ := h a ha
  exact ⟨ai, ni, ci, up_cell hb h1, h2.below hb⟩

set_option maxRecDepth 100000 in
set_option maxHeartbeats 4000000 in
theorem countJoint_any {w : World} {gf of gg og : Nat} {l k : List Edg} (F : FanAt w gf of l) (G : FanAt w gg og k) (hl : l.length ≤ 400000) (hk : k.length ≤ 400000) :
    Calls Tryz.prog 56 #[.pointer (some ⟨gf, of, none⟩), .pointer (some ⟨gg, og, none⟩)] w fun e w' => e = .returned (.int .i64 ((jnt l k 8).length : Nat)) ∧ Below w.heap.size w w' := by
  have HF := Lib.hid F
  have HG := Lib.hid G
  clear F G
  go_enter Tryz.func56, Tryz.ntmps56
  go_wp2
  go_loopw [5, 6, 7] (fun cv _ q wr => ∃ a : Nat, q = .int .i64 a ∧ a ≤ 8 ∧ cv = .int .i64 ((jnt l k a).length : Nat) ∧ (jnt l k a).length ≤ a * 160000000000 ∧ Below w.heap.size w wr) (fun _ _ q _ => 8 - (intOf q).toNat)
  case atStart => exact ⟨0, rfl, by omega, rfl, by simp [jnt], Below.refl _ _⟩
  case round =>
    obtain ⟨a, rfl, ha, rfl, hc, hb⟩ := hrel
    by_cases hlt : a < 8
    · obtain ⟨ai, ni, ci, c1, hE⟩ := (HF.out.below hb) a hlt
      obtain ⟨aj, nj, cj, d1, hE'⟩ := (HG.out.below hb) a hlt
      have e1 : (fanL l a).length = ni := hE.len.symm
      have e2 : (fanL k a).length = nj := hE'.len.symm
      have f1 : (fanL l a).length ≤ l.length := List.length_filter_le _ _
      have f2 : (fanL k a).length ≤ k.length := List.length_filter_le _ _
      have hmul : ni * nj ≤ 400000 * 400000 := Nat.mul_le_mul (by omega) (by omega)
      have hn := jnt_len l k a
      rw [e1, e2] at hn
      obtain ⟨z, hz⟩ : ∃ z : Nat, ni * nj = z := ⟨_, rfl⟩
      have hz2 : (ni : Int) * (nj : Int) = (z : Nat) := by rw [← hz]; simp
      rw [hz] at hn hmul
      have a0 : (0 : Int) ≤ (a : Int) := by omega
      have a1 : (a : Int) < 8 := by omega
      clear hE hE' e1 e2 f1 f2
      go_wp2
      go_quiet (fail)
      go_wp2
      go_roundw
      case rel => exact ⟨a + 1, by go_num, by omega, by rw [hn]; go_num, by rw [hn]; omega, below_drewN hb _⟩
      case measure => simp [intOf]; omega
    · obtain rfl : a = 8 := by omega
      go_wp2
      go_ret
      exact ⟨rfl, hb⟩

/-- the list and the edges, as far as the loops have come -/
structure JnAt (w00 w wr : World) (nb M : Nat) (sv s2 : Value) (L : List P2) (js : List Jn) (ea : Option Addr) (ec : Nat) : Prop where
  num : NpAt wr w00.heap.size nb M s2 (prE L js)
  kp : Kp w wr (fun k => k = nb ∨ k = M ∨ some k = sv.ownBlock)
  src : ∀ q, s2.ownBlock = some q → w.heap.size ≤ q ∨ some q = sv.ownBlock
  row : wr.ownsRow w.heap.size 87 2 (.slice ea js.length ec) js.length (ecells (prR L js))
theorem JnAt.up {w00 w wr wA : World} {nb M : Nat} {sv s2 : Value} {L : List P2} {js : List Jn} {ea : Option Addr} {ec : Nat} (h : JnAt w00 w wr nb M sv s2 L js ea ec) (hb : Below wr.heap.size wr wA) : JnAt w00 w wA nb M sv s2 L js ea ec :=
  ⟨h.num.below hb, h.kp.trans (Kp.of_below hb (fun _ => False)) (fun _ _ h => h.elim), h.src, own_up' h.row hb⟩
theorem JnAt.below {w00 w wr : World} {nb M : Nat} {sv s2 : Value} {L : List P2} {js : List Jn} {ea : Option Addr} {ec : Nat} (h : JnAt w00 w wr nb M sv s2 L js ea ec) (hz : w00.heap.size ≤ w.heap.size) (hnb : w00.heap.size ≤ nb) (hM : w00.heap.size ≤ M) (hs : ∀ q, sv.ownBlock = some q → w00.heap.size ≤ q) : Below w00.heap.size w wr :=
  h.kp.below hz (fun k hk => by
    rcases hk with rfl | rfl | hk
    · exact hnb
    · exact hM
    · exact hs k hk.symm)

set_option maxRecDepth 100000 in
set_option maxHeartbeats 16000000 in
theorem jointEdges_any {w00 w : World} {gf of gg og nb M : Nat} {sv : Value} {L : List P2} {l k : List Edg} (hb0 : Below w00.heap.size w00 w) (F : FanAt w00 gf of l) (G : FanAt w00 gg og k) (hN : NpAt w w00.heap.size nb M sv L) (hnb : w00.heap.size ≤ nb) (hM : w00.heap.size ≤ M)
    (hl : ∀ e ∈ l, 0 ≤ e.2) (hk : ∀ e ∈ k, 0 ≤ e.2) (hJ : (jnt l k 8).length ≤ 400000) (hL : L.length ≤ 5000) :
    Calls Tryz.prog 57 #[.pointer (some ⟨gf, of, none⟩), .pointer (some ⟨gg, og, none⟩), .pointer (some ⟨nb, 0, none⟩)] w fun e w' => ∃ v sv', e = .returned v ∧ EdgeOwn w' w.heap.size v (sortEd (prR L (jnt l k 8))) ∧ NpAt w' w00.heap.size nb M sv' (prE L (jnt l k 8)) ∧
      Kp w w' (fun k => k = nb ∨ k = M ∨ some k = sv.ownBlock) ∧ ∀ q, sv'.ownBlock = some q → w.heap.size ≤ q ∨ some q = sv.ownBlock := by
  obtain ⟨i1, hi1, hz10, hz11, hz12⟩ := info_parts infoEdge
  have HF := Lib.hid F
  have HG := Lib.hid G
  have HB0 := Lib.hid hb0
  have hz := hb0.size
  have HSv := Lib.hid (own_ge hN.lst)
  have HPl := Lib.hid hl
  have HPk := Lib.hid hk
  have HJ := Lib.hid hJ
  have HJ0 : Hid (JnAt w00 w w nb M sv sv L (jnt l k 0) none 0) := Lib.hid ⟨hN, Kp.refl _ _, fun q hq => .inr hq.symm, World.ownsRow_nil _ _ _ _⟩
  clear F G hN hb0 hl hk hJ
  go_enter Tryz.func57, Tryz.ntmps57
  go_upto_region 3 with (fail)
  go_loopw [7, 8, 10, 12, 13, 22, 32] (fun ev _ _ _ q _ _ wr => ∃ (a : Nat) (s2 : Value) (ea : Option Addr) (ec : Nat), q = .int .i64 a ∧ a ≤ 8 ∧ ev = .slice ea (jnt l k a).length ec ∧ Hid (JnAt w00 w wr nb M sv s2 L (jnt l k a) ea ec)) (fun _ _ _ _ q _ _ _ => 8 - (intOf q).toNat)
  case atStart => exact ⟨0, sv, none, 0, rfl, by omega, rfl, HJ0⟩
  case round =>
    as_aux_lemma =>
    obtain ⟨w3, hw3⟩ : ∃ z, z = wr := ⟨_, rfl⟩
    subst hw3
    obtain ⟨a, s2, ea, ec, rfl, ha, rfl, hA⟩ := hrel
    by_cases hlt : a < 8
    · have hB3 := hA.out.below hz hnb hM HSv.out
      obtain ⟨ai, ni, ci, c1, hE⟩ := HF.out a hlt
      have c1 := ((HB0.out.trans hB3).cell (lt_of_cell c1)).trans c1
      have HE := Lib.hid hE
      have hfl : Hid ((fanL l a).length = ni) := Lib.hid hE.len.symm
      have hni : ni ≤ 140737488355328 := by have := hE.cap; have := hE.big; omega
      have a0 : (0 : Int) ≤ (a : Int) := by omega
      have a1 : (a : Int) < 8 := by omega
      have HA0 : Hid (JnAt w00 w w3 nb M sv s2 L (jP l k a 0 0) ea ec) := Lib.hid (by rw [jP_zero]; exact hA.out)
      rw [← jP_zero l k a]
      clear hE hB3
      go_upto_region 6 with (fail)
      go_loopw [7, 10, 12, 22, 32] (fun ev _ _ q _ wr => ∃ (i : Nat) (s2 : Value) (ea : Option Addr) (ec : Nat), q = .int .i64 i ∧ i ≤ ni ∧ ev = .slice ea (jP l k a i 0).length ec ∧ Hid (JnAt w00 w wr nb M sv s2 L (jP l k a i 0) ea ec)) (fun _ _ _ q _ _ => ni - (intOf q).toNat)
      case atStart => exact ⟨0, s2, ea, ec, rfl, by omega, rfl, HA0⟩
      case round =>
        as_aux_lemma =>
        obtain ⟨w4, hw4⟩ : ∃ z, z = wr := ⟨_, rfl⟩
        subst hw4
        obtain ⟨i, s2, ea, ec, rfl, hi, rfl, hA⟩ := hrel
        by_cases hli : i < ni
        · have hB4 := HB0.out.trans (hA.out.below hz hnb hM HSv.out)
          have hil : i < (fanL l a).length := by rw [hfl.out]; exact hli
          obtain ⟨be, oe, rfl, d1, d2⟩ := (HE.out.cells.below hB4) i hil
          obtain ⟨u, HU⟩ : ∃ z, Hid ((edAt (fanL l a) i).1 = z) := ⟨_, Lib.hid rfl⟩
          obtain ⟨y, hyy⟩ := Int.eq_ofNat_of_zero_le (fan_pos HPl.out hil)
          have HY : Hid ((edAt (fanL l a) i).2.toNat = y) := Lib.hid (by rw [hyy]; rfl)
          rw [HU.out] at d1
          rw [hyy] at d2
          obtain ⟨aj, nj, cj, c2, hG⟩ := HG.out a hlt
          have c2 := (hB4.cell (lt_of_cell c2)).trans c2
          have HGE := Lib.hid hG
          have hgl : Hid ((fanL k a).length = nj) := Lib.hid hG.len.symm
          have hnj : nj ≤ 140737488355328 := by have := hG.cap; have := hG.big; omega
          have hal := (Below.refl _ w4).alloc (Nat.le_refl _) (.cells #[.int .i64 u, .int .i64 (y : Int)] 87)
          have hA5 := hA.out.up hal
          have hX5 := Whole.new w4 87 #[.int .i64 u, .int .i64 (y : Int)]
          have c3 := cell_new c2 (.cells #[.int .i64 u, .int .i64 (y : Int)] 87)
          obtain ⟨w5, HW5⟩ : ∃ z, Hid (w4.alloc (.cells #[.int .i64 u, .int .i64 (y : Int)] 87) = z) := ⟨_, Lib.hid rfl⟩
          obtain ⟨e5, HE5⟩ : ∃ z, Hid (w4.heap.size = z) := ⟨_, Lib.hid rfl⟩
          rw [HW5.out] at hA5 hX5 c3
          rw [HE5.out] at hX5
          have HNe : Hid (some e5 ≠ (Value.slice ea (jP l k a i 0).length ec).ownBlock) := Lib.hid (fun e => by
            have := (hA.out.row.lt e5 e.symm).2
            have := HE5.out
            omega)
          have HA5 := Lib.hid hA5
          have HX5 := Lib.hid hX5
          clear hal hA5 hX5 hG hB4 c2
          go_upto_region 8 with (fail)
          rw [HW5.out, HE5.out]
          clear d1 d2
          go_upto_region 9 with (fail)
          go_loopw [7, 12, 32] (fun ev _ q wr => ∃ (j : Nat) (s2 : Value) (ea : Option Addr) (ec : Nat), q = .int .i64 j ∧ j ≤ nj ∧ ev = .slice ea (jP l k a i j).length ec ∧ Hid (JnAt w00 w wr nb M sv s2 L (jP l k a i j) ea ec) ∧ Hid (Whole wr e5 87 #[.int .i64 u, .int .i64 (y : Int)]) ∧ Hid (some e5 ≠ (Value.slice ea (jP l k a i j).length ec).ownBlock)) (fun _ _ q _ => nj - (intOf q).toNat)
          case atStart => exact ⟨0, s2, ea, ec, rfl, by omega, rfl, HA5, HX5, HNe⟩
          case round =>
            as_aux_lemma =>
            obtain ⟨w6, hw6⟩ : ∃ z, z = wr := ⟨_, rfl⟩
            subst hw6
            obtain ⟨j, s3, eb, ed, rfl, hj, rfl, hC, hX, hNe⟩ := hrel
            by_cases hlj : j < nj
            · have hjl : j < (fanL k a).length := by rw [hgl.out]; exact hlj
              have hB6 := HB0.out.trans (hC.out.below hz hnb hM HSv.out)
              obtain ⟨bf, og2, rfl, d3, d4⟩ := (HGE.out.cells.below hB6) j hjl
              obtain ⟨u2, HU2⟩ : ∃ z, Hid ((edAt (fanL k a) j).1 = z) := ⟨_, Lib.hid rfl⟩
              obtain ⟨y2, hyy2⟩ := Int.eq_ofNat_of_zero_le (fan_pos HPk.out hjl)
              have HY2 : Hid ((edAt (fanL k a) j).2.toNat = y2) := Lib.hid (by rw [hyy2]; rfl)
              rw [HU2.out] at d3
              rw [hyy2] at d4
              have hJl := jP_len hlt hil (Nat.le_of_lt hjl)
              have HNx : Hid (jP l k a i (j + 1) = jP l k a i j ++ [((a : Int), (y, y2))]) := Lib.hid (by rw [jP_next hjl, HY.out, HY2.out])
              obtain ⟨js, HJs⟩ : ∃ z, Hid (jP l k a i j = z) := ⟨_, Lib.hid rfl⟩
              rw [HJs.out] at hC hNe HNx hJl
              have hJ4 : js.length ≤ 400000 := Nat.le_trans hJl HJ.out
              have HLn : Hid ((prE L js).length ≤ 1000000) := Lib.hid (by have := prE_len js L; omega)
              obtain ⟨J, HJn⟩ : ∃ z, Hid (js.length = z) := ⟨_, Lib.hid rfl⟩
              have hrow := hC.out.row
              rw [HJn.out] at hJ4 hNe hrow
              rw [HJs.out, HJn.out]
              obtain ⟨ix, HIx⟩ : ∃ z : Nat, Hid ((pAdd (prE L js) (y, y2)).idxOf (y, y2) = z) := ⟨_, Lib.hid rfl⟩
              have HRx : Hid (prR L (jP l k a i (j + 1)) = prR L js ++ [((a : Int), (ix : Int))]) := Lib.hid (by rw [HNx.out, prR_snoc, HIx.out])
              have HEx : Hid (prE L (jP l k a i (j + 1)) = pAdd (prE L js) (y, y2)) := Lib.hid (by rw [HNx.out, prE_snoc])
              have HLx : Hid ((jP l k a i (j + 1)).length = J + 1) := Lib.hid (by rw [HNx.out, List.length_append, HJn.out]; rfl)
              have hal := (Below.refl _ w6).alloc (Nat.le_refl _) (.cells #[.int .i64 u2, .int .i64 (y2 : Int)] 87)
              have hC7 := hC.out.up hal
              have hX7 := hX.out.alloc (.cells #[.int .i64 u2, .int .i64 (y2 : Int)] 87)
              have hY7 := Whole.new w6 87 #[.int .i64 u2, .int .i64 (y2 : Int)]
              obtain ⟨w7, HW7⟩ : ∃ z, Hid (w6.alloc (.cells #[.int .i64 u2, .int .i64 (y2 : Int)] 87) = z) := ⟨_, Lib.hid rfl⟩
              obtain ⟨e7, HE7⟩ : ∃ z, Hid (w6.heap.size = z) := ⟨_, Lib.hid rfl⟩
              rw [HW7.out] at hC7 hX7 hY7
              rw [HE7.out] at hY7
              have t0 := hX7.cell 1
              have t1 := hY7.cell 1
              simp only [List.getElem?_toArray, List.getElem?_cons_succ, List.getElem?_cons_zero] at t0 t1
              have HC7 := Lib.hid hC7
              have HX7 := Lib.hid hX7
              have HZ7 : Hid (w.heap.size ≤ w7.heap.size) := Lib.hid hC7.kp.size
              have hr7 := hC7.row
              rw [HJn.out] at hr7
              have HR7 := Lib.hid hr7
              have HNe := Lib.hid hNe.out
              clear hal hC7 hX7 hY7 hB6 hjl hJl hrow hr7 hNe
              go_upto_region 11 with (fail)
              rw [HW7.out, HE7.out]
              clear d3 d4
              go_wp2_with fail
              refine (numberP_any HC7.out.num (Nat.le_trans hz HZ7.out) HLn.out y y2).mono ?_
              rw [HIx.out]
              rintro e w8 ⟨s4, rfl, hN8, hK8, hat8⟩
              have hO8 := hK8.own HR7.out (fun r hr h9 => by
                rcases h9 with rfl | rfl | h9
                · exact own_whole HR7.out HC7.out.num.box (by decide) hr.symm
                · exact tab_own HC7.out.num.tab HR7.out hr.symm
                · rcases own_apart HR7.out HC7.out.num.lst (by decide) with h8 | h8
                  · rw [h8] at hr; cases hr
                  · exact h8 (hr.trans h9))
              have hX8 := hK8.whole HX7.out (fun h9 => by
                rcases h9 with h9 | h9 | h9
                · exact whole_ne HX7.out HC7.out.num.box (by decide) h9
                · exact tab_whole HC7.out.num.tab HX7.out h9
                · exact own_whole HC7.out.num.lst HX7.out (by decide) h9)
              have HK8 := Lib.hid hK8
              have HN8 := Lib.hid (hN8.alloc (.cells #[.int .i64 (a : Int), .int .i64 (ix : Int)] 87))
              have HX8 := Lib.hid (hX8.alloc (.cells #[.int .i64 (a : Int), .int .i64 (ix : Int)] 87))
              have HO8 := Lib.hid (hO8.alloc (.cells #[.int .i64 (a : Int), .int .i64 (ix : Int)] 87))
              have HAt8 := Lib.hid hat8
              have hz8 := hK8.size
              clear hN8 hX8 hO8 hK8 hat8 t0 t1
              go_wp2_with (at_builtin; (refine wpList_append_sz rfl (.tmp 36) (.tmp 46) 77 rfl w.heap.size 87 i1 (.agg #[.int .i64 0, .int .i64 0]) 2 16 Tryz.underlying77 hi1 hz10 hz11 hz12 rfl (by decide) (.slice eb J ed) rfl J (ecells (prR L js)) HO8.out (some ⟨w8.heap.size, 0, none⟩) 1 1 rfl [.int .i64 (a : Int), .int .i64 (ix : Int)] (fun h => by cases h) rfl (pair_src _ _ _ _) (by simp [Value.oneCell']) (by unfold maxLen; omega) (by omega) (Nat.le_trans (Nat.le_trans HZ7.out hz8) (by simp)) ?_); intro v2 w9 hv2 hg9 hat9; refine Hid.out ?_)
              obtain ⟨x2, q2, rfl⟩ := own_slice hv2
              have HX9 := Lib.hid (HX8.out.grown hg9 HNe.out)
              have HC9 : Hid (JnAt w00 w w9 nb M sv s4 L (jP l k a i (j + 1)) x2 q2) := Lib.hid (by
                refine ⟨?_, ?_, ?_, ?_⟩
                · rw [HEx.out]
                  exact HN8.out.grown hg9 HO8.out (by decide) (by decide)
                · have k1 := HC7.out.kp.trans HK8.out (fun r hr h9 => by
                    rcases h9 with h9 | h9 | h9
                    · exact .inl h9
                    · exact .inr (.inl h9)
                    · rcases HC7.out.src r h9.symm with h9 | h9
                      · omega
                      · exact .inr (.inr h9))
                  have k2 := k1.trans (Kp.of_below ((Below.refl _ w8).alloc (Nat.le_refl _) (.cells #[.int .i64 (a : Int), .int .i64 (ix : Int)] 87)) (fun _ => False)) (fun r _ h => h.elim)
                  exact k2.trans (Kp.of_grown hg9) (fun r hr h9 => by
                    have := own_ge HO8.out r h9.symm
                    omega)
                · intro r hr
                  rcases HAt8.out with e | ⟨q', e, e2⟩
                  · exact HC7.out.src r (e ▸ hr)
                  · rw [e] at hr
                    cases hr
                    exact .inl (Nat.le_trans HZ7.out e2)
                · rw [HLx.out, HRx.out, ecells_app]
                  exact hv2)
              have HNe9 : Hid (some e5 ≠ (Value.slice x2 (J + 1) q2).ownBlock) := Lib.hid (by
                rcases hat9 with e | e
                · rw [e]; exact HNe.out
                · rw [e]
                  intro e9
                  have h9 := HX8.out.lt
                  simp only [Option.some.injEq] at e9
                  omega)
              clear hv2 hg9 hat9
              refine Lib.hid ?_
              go_wp2
              go_roundw
              case rel => exact ⟨j + 1, s4, _, _, by go_num, by omega, by rw [HLx.out], HC9, HX9, by rw [HLx.out]; exact HNe9⟩
              case measure => simp [intOf]; omega
            · have hjn : j = nj := by omega
              subst hjn
              have HEq : Hid (jP l k a i j = jP l k a (i + 1) 0) := Lib.hid (by rw [← hgl.out]; exact jP_row hil)
              rw [HEq.out] at hC
              rw [HEq.out]
              go_wp2
              go_roundw
              case rel => exact ⟨i + 1, s3, _, _, by go_num, by omega, rfl, hC⟩
              case measure => simp [intOf]; omega
        · have hin : i = ni := by omega
          subst hin
          have HEq : Hid (jP l k a i 0 = jnt l k (a + 1)) := Lib.hid (by rw [← hfl.out]; exact jP_act l k a)
          rw [HEq.out] at hA
          rw [HEq.out]
          go_wp2
          go_roundw
          case rel => exact ⟨a + 1, s2, _, _, by go_num, by omega, rfl, hA⟩
          case measure => simp [intOf]; omega
    · have han : a = 8 := by omega
      subst han
      obtain ⟨J, HJn⟩ : ∃ z, Hid ((jnt l k 8).length = z) := ⟨_, Lib.hid rfl⟩
      rw [HJn.out]
      have hJ4 : J ≤ 400000 := by have := HJ.out; have := HJn.out; omega
      have hrow := hA.out.row
      rw [HJn.out] at hrow
      have HO : Hid (EdgeOwn w3 w.heap.size (.slice ea J ec) (prR L (jnt l k 8))) := Lib.hid (by
        unfold EdgeOwn
        rw [prR_len, HJn.out]
        exact hrow)
      go_upto_region 15 with (fail)
      go_wp2_with fail
      refine (sortE_any HO.out (by rw [prR_len, HJn.out]; omega)).mono ?_
      rintro e w9 ⟨rfl, hS, hg⟩
      have HN9 := Lib.hid (hA.out.num.grown hg hrow (by decide) (by decide))
      have HK9 : Hid (Kp w w9 (fun k => k = nb ∨ k = M ∨ some k = sv.ownBlock)) := Lib.hid (hA.out.kp.trans (Kp.of_grown hg) (fun r hr h9 => by
        have := own_ge hrow r h9.symm
        omega))
      have HS9 := Lib.hid hS
      clear hS hg hrow
      go_wp2
      go_ret
      exact ⟨_, s2, rfl, HS9.out, HN9.out, HK9.out, hA.out.src⟩
end Go.Proofs.YtgnbkepdbdgkdaaGreatDoor
