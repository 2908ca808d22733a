/- act.Sets: the sets in increasing order, each once, or the error. -/
import Derived.Test.YtcbmlchlllpnoaaDoorCopied
import Derived.Deep.WholeRow
import Derived.OwnWalk
namespace Go.Proofs.YtcbmlchlllpnoaaDoor
open Go.RowKit Pl

/-- what a list of small numbers leaves marked -/
def marks (xs : List Int) : Array Value := xs.foldl (fun a x => a.setIfInBounds x.toNat (.bool true)) (Array.replicate 256 (.bool false))
theorem marks_snoc (xs : List Int) (x : Int) : marks (xs ++ [x]) = (marks xs).setIfInBounds x.toNat (.bool true) := by simp [marks]
theorem marks_fold_at : ∀ (xs : List Int) (a : Array Value) (b : Bool) (k : Nat), (∀ x ∈ xs, 0 ≤ x) → a[k]? = some (.bool b) → (xs.foldl (fun a x => a.setIfInBounds x.toNat (.bool true)) a)[k]? = some (.bool (b || xs.contains (k : Int)))
  | [], a, b, k, _, h => by simpa using h
  | x :: xs, a, b, k, h0, h => by
    have hsz : k < a.size := (Array.getElem?_eq_some_iff.1 h).1
    have hx := h0 x (List.mem_cons_self ..)
    have h0' : ∀ y ∈ xs, 0 ≤ y := fun y hy => h0 y (List.mem_cons_of_mem _ hy)
    rw [List.foldl_cons]
    by_cases e : x.toNat = k
    · subst e
      rw [marks_fold_at xs _ true x.toNat h0' (by rw [Array.getElem?_setIfInBounds_self_of_lt hsz])]
      have : ((x.toNat : Nat) : Int) = x := by omega
      rw [this]
      simp
    · rw [marks_fold_at xs _ b k h0' (by rw [Array.getElem?_setIfInBounds_ne e]; exact h), List.contains_cons]
      have : ((k : Int) == x) = false := by
        rw [beq_eq_false_iff_ne]
        omega
      rw [this, Bool.false_or]
theorem marks_at {xs : List Int} (h : ∀ x ∈ xs, 0 ≤ x) (k : Nat) (hk : k < 256) : (marks xs)[k]? = some (.bool (xs.contains (k : Int))) := by
  have := marks_fold_at xs (Array.replicate 256 (.bool false)) false k h (by rw [Array.getElem?_replicate, if_pos hk])
  rwa [Bool.false_or] at this
theorem marks_size (xs : List Int) : (marks xs).size = 256 := by
  have : ∀ (l : List Int) (a : Array Value), (l.foldl (fun a x => a.setIfInBounds x.toNat (.bool true)) a).size = a.size := fun l => by
    induction l with
    | nil => intro a; rfl
    | cons x l ih => intro a; rw [List.foldl_cons, ih, Array.size_setIfInBounds]
  unfold marks
  rw [this, Array.size_replicate]
/-- the numbers below k that stand in the list, in increasing order -/
def gotL (xs : List Int) (k : Nat) : List Nat := (List.range k).filter fun j => xs.contains (j : Int)
theorem gotL_yes (xs : List Int) (k : Nat) (h : xs.contains (k : Int) = true) : gotL xs (k + 1) = gotL xs k ++ [k] := by
  simp only [gotL, List.range_succ, List.filter_append, List.filter_cons, List.filter_nil, h, if_true]
theorem gotL_no (xs : List Int) (k : Nat) (h : xs.contains (k : Int) = false) : gotL xs (k + 1) = gotL xs k := by
  simp only [gotL, List.range_succ, List.filter_append, List.filter_cons, List.filter_nil, h, Bool.false_eq_true, if_false, List.append_nil]
theorem gotL_len (xs : List Int) (k : Nat) : (gotL xs k).length ≤ k := by
  have := List.length_filter_le (fun j : Nat => xs.contains (j : Int)) (List.range k)
  rwa [List.length_range] at this
/-- what Sets answers -/
def setsL (ss : List ByteArray) (xs : List Int) : List Nat := if setCode ss xs = 0 then gotL xs 256 else []
theorem sets_lt {ss : List ByteArray} {xs : List Int} (h : actsB ss = true) (hx : xs.all (setB ss.length) = true) : ∀ x ∈ xs, 0 ≤ x ∧ x < 256 := fun x hm => by
  have h1 := List.all_eq_true.1 hx x hm
  exact set_lt h (by rw [List.all_cons, List.all_nil, Bool.and_true]; exact h1)

theorem wpList_load_row {P : Program} (w : World) {ops : Array Oper} {rest : List Oper} {o : Oper} {a : Act} {Q : Exit → Act → World → Prop}
    (hg : o.guard = none) (t : TypeId) (x : Operand) (hop : o.op = Op.load t x) (p r : Value) (hx : a.eval x = p) (hrun : (Instr.loadAt t p).run P w = .ok r w)
    (hK : wpList P ops Q rest (a.put o.dst r) w) : wpList P ops Q (o :: rest) a w := by
  refine wpList_plain hg fun K hK' => ?_
  unfold Oper.wp
  simp [execOp, hop, hx, hrun, Result.andThen]
  exact hK' _ _ hK

theorem zeroMarks : Tryd.zeroCells66 = marks [] := by kernel_rfl
theorem info256 : (Tryd.prog.info? 66).map (·.size) = some 256 := by kernel_rfl

theorem own_block_ge {W : World} {base : Nat} {e : TypeId} {size n : Nat} {v : Value} {xs : List Value} (h : W.ownsRow base e size v n xs) : ∀ k, v.ownBlock = some k → base ≤ k := by
  intro k hk
  rcases h.2 with ⟨rfl, rfl⟩ | ⟨g, cap, cur, rfl, hg, _⟩
  · cases hk
  · cases hk
    exact hg
theorem index_at (W : World) (cs : Array Value) (k : Nat) (hk : k < 256) (v : Value) (hv : cs[k]? = some v) :
    (Instr.index 66 (.agg cs) (.int .i64 k)).run Tryd.prog W = .ok v W := by
  have hn : 0 ≤ (k : Int) ∧ (k : Int) < 256 := by omega
  simp [Instr.index, run_underlying Tryd.underlying66, asIntOf, hn, go_sem, hv]
  intro h
  omega

set_option maxRecDepth 100000 in
set_option maxHeartbeats 4000000 in
theorem Sets_any {w : World} {a : Option Addr} {n c : Nat} {ss : List ByteArray} {e0 e1 e2 : Addr} {a' : Option Addr} {m c' : Nat} {xs : List Int} (E : Errs w e0 e1 e2) (A : StrArg w a n c ss) (X : IntArg w a' m c' xs) :
    Calls Tryd.prog 23 #[.slice a n c, .slice a' m c'] w fun e w' => ∃ v, e = .returned (.tuple #[v, .int .i64 (setCode ss xs)]) ∧
      w'.ownsRow w.heap.size 3 1 v (setsL ss xs).length ((setsL ss xs).map (fun k : Nat => Value.int .i64 k)) ∧ Below w.heap.size w w' := by
  have HC := Lib.hid (checkSets_any E A X)
  have HD := Lib.hid (setsErr_code E ss xs)
  by_cases hz : setCode ss xs = 0
  · obtain ⟨i0, hi, hz0, hz1, hz2⟩ := info_parts infoInt
    have hab := set_ok hz
    rw [setsErr_yes e0 e1 hab.1 hab.2] at HC
    have HL : Hid (setsL ss xs = gotL xs 256) := Lib.hid (by unfold setsL; rw [if_pos hz])
    have HZ := Lib.hid hz
    have HX := Lib.hid X
    have hbound := Lib.hid (sets_lt hab.1 hab.2)
    have hm := X.big
    have hlen := Lib.hid X.len
    clear hz hab E A X HD
    go_enter Tryd.func23, Tryd.ntmps23
    go_wp2_with fail
    refine HC.out.mono ?_
    rintro e w' ⟨rfl, rfl⟩
    go_wp2
    rw [zeroMarks]
    go_loopw [9, 22] (fun _ i wr => ∃ k : Nat, k ≤ m ∧ i = .int .i64 k ∧ wr = w.alloc (.cells (marks (xs.take k)) 66)) (fun _ i _ => m - (intOf i).toNat)
    case atStart => exact ⟨0, Nat.zero_le _, rfl, rfl⟩
    case round =>
      obtain ⟨k, hk, rfl, rfl⟩ := hrel
      have B1 : Below w.heap.size w (w.alloc (.cells (marks (xs.take k)) 66)) := (Below.refl _ w).alloc (Nat.le_refl _) _
      by_cases hlt : k < m
      · have hkx : k < xs.length := by have := hlen.out; omega
        obtain ⟨b, off, rfl, hcell⟩ := (HX.out.cells.below B1) k hkx
        have hmem : xs.getD k 0 ∈ xs := by
          rw [List.getD_eq_getElem?_getD, List.getElem?_eq_getElem hkx]
          exact List.getElem_mem hkx
        obtain ⟨y0, y1⟩ := hbound.out _ hmem
        obtain ⟨y, hy⟩ := Int.eq_ofNat_of_zero_le y0
        have HS : Hid (marks (xs.take (k + 1)) = (marks (xs.take k)).setIfInBounds y (.bool true)) := Lib.hid (by
          rw [List.take_succ_eq_append_getElem hkx, marks_snoc]
          have : xs[k] = (y : Int) := by rw [← hy, List.getD_eq_getElem?_getD, List.getElem?_eq_getElem hkx]; rfl
          rw [this]
          rfl)
        rw [hy] at hcell y1
        have hat := marks_at (xs := xs.take k) (fun x hx => (hbound.out x (List.mem_of_mem_take hx)).1) y (by omega)
        clear hmem y0 hy hkx
        go_wp2
        go_roundw
        case rel => exact ⟨k + 1, by omega, by go_num, by rw [HS.out]⟩
        case measure => simp [intOf]; omega
      · have hall : Hid (marks (xs.take k) = marks xs) := Lib.hid (by rw [List.take_of_length_le (by have := hlen.out; omega)])
        have hload := run_loadAt_new (P := Tryd.prog) w 66 (marks (xs.take k)) 256 4 Tryd.underlying66 (by rw [marks_size]; exact info256)
        go_wp2_with (refine wpList_load_row _ rfl 66 _ rfl _ _ rfl hload ?_; clear hload)
        rw [hall.out] at B1 ⊢
        clear hall
        go_loopw [10, 11, 12, 30] (fun v _ _ i wr => ∃ k : Nat, k ≤ 256 ∧ i = .int .i64 k ∧ wr.ownsRow w.heap.size 3 1 v (gotL xs k).length ((gotL xs k).map (fun k : Nat => Value.int .i64 k)) ∧ Below w.heap.size w wr) (fun _ _ _ i _ => 256 - (intOf i).toNat)
        case atStart => exact ⟨0, by omega, rfl, World.ownsRow_nil _ _ _ _, B1⟩
        case round =>
          obtain ⟨k, hk, rfl, hrow, hB⟩ := hrel
          by_cases hlt : k < 256
          · have hat := fun W => index_at W _ k hlt _ (marks_at (xs := xs) (fun x hx => (hbound.out x hx).1) k hlt)
            have hl := gotL_len xs k
            cases hb : xs.contains (k : Int)
            · have HG := Lib.hid (gotL_no xs k hb)
              rw [hb] at hat
              clear hb
              go_wp2
              go_roundw
              case rel => exact ⟨k + 1, by omega, by go_num, by rw [HG.out]; exact hrow, hB⟩
              case measure => simp [intOf]; omega
            · have HG := Lib.hid (gotL_yes xs k hb)
              rw [hb] at hat
              clear hb
              go_wp2_with (at_builtin; refine wpList_append_own _ rfl _ _ 33 rfl w.heap.size 3 i0 (.int .i64 0) 1 8 Tryd.underlying33 hi hz0 hz1 hz2 rfl (by decide) _ _ _ rfl (hrow.alloc _) ⟨_, 0, none⟩ 1 1 [(.int .i64 k)] rfl rfl (cell_one_new _ _ _) (by simp [Value.oneCell']) (by unfold maxLen; omega) (by omega) (by have := hB.size; simp; omega) ?_; intro v' w1 hown' hgrow _)
              have hg' : (wr.alloc (.cells #[.int .i64 k] 3)).grownBy w1 u10.ownBlock := hgrow
              go_roundw
              case rel =>
                refine ⟨k + 1, by omega, by go_num, ?_, (hB.alloc hB.size _).grown hg' (by have := hB.size; simp; omega) (own_block_ge hrow)⟩
                rw [HG.out, List.length_append, List.map_append]
                exact hown'
              case measure => simp [intOf]; omega
          · obtain rfl : k = 256 := by omega
            go_wp2
            go_ret2
            rw [HL.out, HZ.out]
            exact ⟨_, rfl, hrow, hB⟩
  · obtain ⟨b, hb⟩ := setsErr_iface e0 e1 hz
    rw [hb] at HC HD
    have HL : Hid (setsL ss xs = []) := Lib.hid (by unfold setsL; rw [if_neg hz])
    clear hz hb
    go_enter Tryd.func23, Tryd.ntmps23
    go_wp2_with fail
    refine HC.out.mono ?_
    rintro e w' ⟨rfl, rfl⟩
    go_wp2_with fail
    refine HD.out.mono ?_
    rintro e w' ⟨rfl, rfl⟩
    go_wp2
    go_ret2
    rw [HL.out]
    exact ⟨_, rfl, World.ownsRow_nil _ _ _ _, Below.refl _ _⟩
end Go.Proofs.YtcbmlchlllpnoaaDoor
