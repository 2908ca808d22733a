/- Texts joined: Is, Check. -/
import Derived.Test.YtbncofgbpffmkaaGreatDoorJc02
import Derived.LaidEql
import Derived.Stop.Asserts
import Derived.RowKitTokens
/- errors.Is, for an error of errors.New's make or nil beside such a one. -/
namespace Go.Proofs.YtbncofgbpffmkaaGreatDoor
open Go.RowKit Go.Extern.Stop Go.Stop Go.Extern

theorem isTypeOf (v : Value) (w : World) : (Extern.ReflectliteType.typeOf #[.iface 232 v]).run Tryz.prog w = .ok (.iface 186 (.agg #[.pointer (some ⟨11, 232, none⟩)])) w := by kernel_rfl
theorem isComparable (w : World) : (callFunc 174 #[.agg #[.pointer (some ⟨11, 232, none⟩)]]).run Tryz.prog w = .ok (Next.value (.bool true)) w := by kernel_rfl
theorem isMethodComparable (v : Value) (w : World) : (Go.method 365 186 v "Comparable").run Tryz.prog w = .ok (174, v) w := by kernel_rfl
theorem isComp : (Tryz.prog.info? 232).map (·.comparable) = some true := by kernel_rfl
theorem isSize : (Tryz.prog.info? 234).map (·.size) = some 1 := by kernel_rfl
theorem noIsE (v : Value) (xT : TypeId) (w : World) : (Instr.typeAssert (.iface 232 v) xT 188 true).run Tryz.prog w = .ok (.tuple #[.nilIface, .bool false]) w := run_typeAssert_lacksB Tryz.underlying188 (by kernel_rfl) (by kernel_rfl) v xT w
theorem noUnwrapE (v : Value) (xT : TypeId) (w : World) : (Instr.typeAssert (.iface 232 v) xT 191 true).run Tryz.prog w = .ok (.tuple #[.nilIface, .bool false]) w := run_typeAssert_lacksB Tryz.underlying191 (by kernel_rfl) (by kernel_rfl) v xT w
theorem noUnwrapsE (v : Value) (xT : TypeId) (w : World) : (Instr.typeAssert (.iface 232 v) xT 193 true).run Tryz.prog w = .ok (.tuple #[.nilIface, .bool false]) w := run_typeAssert_lacksB Tryz.underlying193 (by kernel_rfl) (by kernel_rfl) v xT w

set_option maxRecDepth 100000 in
/-- errors.Is(x, x) -/
theorem is_same (a : Addr) (w : World) :
    Calls Tryz.prog 78 #[.iface 232 (.pointer (some a)), .iface 232 (.pointer (some a))] w fun e w' => e = .returned (.bool true) ∧ w = w' := by
  obtain ⟨i, hi, hcmp⟩ := Option.map_eq_some_iff.1 isComp
  obtain ⟨j, hj, _⟩ := Option.map_eq_some_iff.1 isSize
  have h8 := @run_callFunc_extern Tryz.prog 96 _ Extern.ReflectliteType.typeOf Tryz.func96 (by kernel_rfl) (by kernel_rfl) (by kernel_rfl) (by kernel_rfl)
  have tT := isTypeOf
  have cT := isComparable
  have mR := isMethodComparable
  have heq := run_eql_iface_ptr_same (P := Tryz.prog) w a Tryz.underlying99 Tryz.underlying232 hi hcmp hj
  go_enter Tryz.func78, Tryz.ntmps78
  go_wp2
  refine wp_loop_rounds 1 ?_
  rw [rounds_succ]
  go_wp2
  go_ret
  exact ⟨rfl, rfl⟩

set_option maxRecDepth 100000 in
/-- errors.Is(nil, x) -/
theorem is_nil (b : Addr) (w : World) :
    Calls Tryz.prog 78 #[.nilIface, .iface 232 (.pointer (some b))] w fun e w' => e = .returned (.bool false) ∧ w = w' := by
  have hn := run_eql_iface_nil_left (P := Tryz.prog) w 232 (.pointer (some b)) Tryz.underlying99
  go_enter Tryz.func78, Tryz.ntmps78
  go_wp2
  go_ret
  exact ⟨rfl, rfl⟩

set_option maxRecDepth 100000 in
/-- errors.Is(x, y), two different ones -/
theorem is_other (a b : Addr) (ca cb : Array Value) (ta tb : TypeId) (w : World) (hne : a ≠ b) (ha : w.heap[a.block]? = some (.cells ca ta (0, 0))) (hb : w.heap[b.block]? = some (.cells cb tb (0, 0))) :
    Calls Tryz.prog 78 #[.iface 232 (.pointer (some a)), .iface 232 (.pointer (some b))] w fun e w' => e = .returned (.bool false) ∧ w = w' := by
  obtain ⟨i, hi, hcmp⟩ := Option.map_eq_some_iff.1 isComp
  obtain ⟨j, hj, hjs⟩ := Option.map_eq_some_iff.1 isSize
  have h8 := @run_callFunc_extern Tryz.prog 96 _ Extern.ReflectliteType.typeOf Tryz.func96 (by kernel_rfl) (by kernel_rfl) (by kernel_rfl) (by kernel_rfl)
  have tT := isTypeOf
  have cT := isComparable
  have mR := isMethodComparable
  have nE := noIsE
  have uE := noUnwrapE
  have vE := noUnwrapsE
  have heq := run_eql_iface_ptr_other (P := Tryz.prog) w Tryz.underlying99 Tryz.underlying232 hi hcmp hj (by rw [hjs]; decide) hne ha hb
  go_enter Tryz.func78, Tryz.ntmps78
  go_wp2
  refine wp_loop_rounds 1 ?_
  rw [rounds_succ]
  go_wp2
  go_ret
  exact ⟨rfl, rfl⟩
end Go.Proofs.YtbncofgbpffmkaaGreatDoor
/- The errors of package act as the variables hold them; its functions that check, and Find. -/
namespace Go.Proofs.YtbncofgbpffmkaaGreatDoor
open Go.RowKit Pl

/-- what a package-level error variable holds -/
structure ErrAt (w : World) (g : Nat) (a : Addr) : Prop where
  cell : w.cell? ⟨g, 0, none⟩ = some (.iface 232 (.pointer (some a)))
  row : ∃ c t, w.heap[a.block]? = some (.cells c t (0, 0))
/-- the three errors of package act, different from each other -/
structure Errs (w : World) (e0 e1 e2 : Addr) : Prop where
  h0 : ErrAt w 0 e0
  h1 : ErrAt w 1 e1
  h2 : ErrAt w 2 e2
  n01 : e0 ≠ e1
  n02 : e0 ≠ e2
  n12 : e1 ≠ e2
theorem ErrAt.below {w w' : World} {g : Nat} {a : Addr} (h : ErrAt w g a) (hb : Below w.heap.size w w') : ErrAt w' g a := by
  refine ⟨(hb.cell (lt_of_cell h.cell)).trans h.cell, ?_⟩
  obtain ⟨c, t, hr⟩ := h.row
  exact ⟨c, t, (hb.block _ (Array.getElem?_eq_some_iff.1 hr).1).trans hr⟩
theorem Errs.below {w w' : World} {e0 e1 e2 : Addr} (h : Errs w e0 e1 e2) (hb : Below w.heap.size w w') : Errs w' e0 e1 e2 :=
  ⟨h.h0.below hb, h.h1.below hb, h.h2.below hb, h.n01, h.n02, h.n12⟩
theorem is_not {w : World} {g h : Nat} {a b : Addr} (ha : ErrAt w g a) (hb : ErrAt w h b) (hne : a ≠ b) :
    Calls Tryz.prog 78 #[.iface 232 (.pointer (some a)), .iface 232 (.pointer (some b))] w fun e w' => e = .returned (.bool false) ∧ w = w' := by
  obtain ⟨c, t, hr⟩ := ha.row
  obtain ⟨c', t', hr'⟩ := hb.row
  exact is_other a b c c' t t' w hne hr hr'

/-- act.code: 0 for nil -/
theorem code_nil (w : World) (e0 e1 e2 : Addr) (E : Errs w e0 e1 e2) :
    Calls Tryz.prog 59 #[.nilIface] w fun e w' => e = .returned (.int .i64 0) ∧ w = w' := by
  have c0 := E.h0.cell
  have c1 := E.h1.cell
  have c2 := E.h2.cell
  go_enter Tryz.func59, Tryz.ntmps59
  go_wp2_with fail
  refine (is_nil _ _).mono ?_
  rintro e w' ⟨rfl, rfl⟩
  go_wp2_with fail
  refine (is_nil _ _).mono ?_
  rintro e w' ⟨rfl, rfl⟩
  go_wp2_with fail
  refine (is_nil _ _).mono ?_
  rintro e w' ⟨rfl, rfl⟩
  go_wp2
  go_ret
  exact ⟨rfl, rfl⟩
theorem code_acts (w : World) (e0 e1 e2 : Addr) (E : Errs w e0 e1 e2) :
    Calls Tryz.prog 59 #[.iface 232 (.pointer (some e0))] w fun e w' => e = .returned (.int .i64 10) ∧ w = w' := by
  have c0 := E.h0.cell
  go_enter Tryz.func59, Tryz.ntmps59
  go_wp2_with fail
  refine (is_same _ _).mono ?_
  rintro e w' ⟨rfl, rfl⟩
  go_wp2
  go_ret
  exact ⟨rfl, rfl⟩
theorem code_set (w : World) (e0 e1 e2 : Addr) (E : Errs w e0 e1 e2) :
    Calls Tryz.prog 59 #[.iface 232 (.pointer (some e1))] w fun e w' => e = .returned (.int .i64 1) ∧ w = w' := by
  have c0 := E.h0.cell
  have c1 := E.h1.cell
  go_enter Tryz.func59, Tryz.ntmps59
  go_wp2_with fail
  refine (is_not E.h1 E.h0 E.n01.symm).mono ?_
  rintro e w' ⟨rfl, rfl⟩
  go_wp2_with fail
  refine (is_same _ _).mono ?_
  rintro e w' ⟨rfl, rfl⟩
  go_wp2
  go_ret
  exact ⟨rfl, rfl⟩
theorem code_text (w : World) (e0 e1 e2 : Addr) (E : Errs w e0 e1 e2) :
    Calls Tryz.prog 59 #[.iface 232 (.pointer (some e2))] w fun e w' => e = .returned (.int .i64 11) ∧ w = w' := by
  have c0 := E.h0.cell
  have c1 := E.h1.cell
  have c2 := E.h2.cell
  go_enter Tryz.func59, Tryz.ntmps59
  go_wp2_with fail
  refine (is_not E.h2 E.h0 E.n02.symm).mono ?_
  rintro e w' ⟨rfl, rfl⟩
  go_wp2_with fail
  refine (is_not E.h2 E.h1 E.n12.symm).mono ?_
  rintro e w' ⟨rfl, rfl⟩
  go_wp2_with fail
  refine (is_same _ _).mono ?_
  rintro e w' ⟨rfl, rfl⟩
  go_wp2
  go_ret
  exact ⟨rfl, rfl⟩

/-- what the check of a list of actions answers -/
def actsErr (e0 : Addr) (ss : List ByteArray) : Value := if actsB ss = true then .nilIface else .iface 232 (.pointer (some e0))
theorem actsErr_yes (e0 : Addr) {ss : List ByteArray} (h : actsB ss = true) : actsErr e0 ss = .nilIface := if_pos h
theorem actsErr_no (e0 : Addr) {ss : List ByteArray} (h : actsB ss = false) : actsErr e0 ss = .iface 232 (.pointer (some e0)) := by unfold actsErr; rw [h]; rfl

set_option maxHeartbeats 400000 in
/-- act.checkActions -/
theorem checkActions_any (a : Option Addr) (n c : Nat) (ss : List ByteArray) (w : World) (e0 e1 e2 : Addr) (E : Errs w e0 e1 e2) (hn : n = ss.length) (hcap : n ≤ c) (hbig : n ≤ 9223372036854775807) (hs : ∀ k, k < n → (at_ ss k).size ≤ 9223372036854775807) (hc : StrsIn w a ss) :
    Calls Tryz.prog 60 #[.slice a n c] w fun e w' => e = .returned (actsErr e0 ss) ∧ w = w' := by
  have HN := Lib.hid hn
  have HC := Lib.hid hc
  have HS := Lib.hid hs
  have c0 := E.h0.cell
  clear hn hc hs
  by_cases h8 : 8 < n
  · have HB := Lib.hid (actsErr_no e0 (actsB_long ss (by have := HN.out; omega)))
    go_enter Tryz.func60, Tryz.ntmps60
    go_wp2
    go_ret
    exact ⟨by rw [HB.out]; rfl, rfl⟩
  go_enter Tryz.func60, Tryz.ntmps60
  go_wp2
  go_loop [3, 4, 11] (fun _ _ i => ∃ k : Nat, k ≤ n ∧ i = .int .i64 k ∧ Hid (∀ j, j < k → nameB (at_ ss j) = true ∧ Lib.containsS (ss.take j) (at_ ss j) = false)) (fun _ _ i => n - (intOf i).toNat)
  case atStart => exact ⟨0, Nat.zero_le _, rfl, Lib.hid fun j hj => absurd hj (Nat.not_lt_zero _)⟩
  case round =>
    obtain ⟨k, hk, rfl, hne⟩ := hrel
    by_cases hlt : k < n
    · obtain ⟨b, off, rfl, hcell⟩ := HC.out k (by have := HN.out; omega)
      have hsz := HS.out k hlt
      change w.cell? _ = some (.string (at_ ss k)) at hcell
      cases hnm : nameB (at_ ss k)
      · have HB := Lib.hid (actsErr_no e0 (actsB_name ss k (by have := HN.out; omega) hnm))
        have HM := Lib.hid hnm
        clear hnm
        obtain ⟨y, HY⟩ : ∃ y, Hid (at_ ss k = y) := ⟨_, Lib.hid rfl⟩
        rw [HY.out] at hcell HM hsz
        go_wp2_with fail
        refine (isName_any y _ hsz).mono ?_
        rw [HM.out]
        rintro e w' ⟨rfl, rfl⟩
        go_wp2
        go_ret
        exact ⟨by rw [HB.out]; rfl, rfl⟩
      · have HM := Lib.hid hnm
        have HI := Lib.hid (contains_any (some ⟨b, off, none⟩) k c (ss.take k) (at_ ss k) w (by have := HN.out; rw [List.length_take]; omega) (by omega) (HC.out.take k))
        cases hq : Lib.containsS (ss.take k) (at_ ss k)
        · have hne' : Hid (∀ j, j < k + 1 → nameB (at_ ss j) = true ∧ Lib.containsS (ss.take j) (at_ ss j) = false) := Lib.hid fun j hj => by
            by_cases e : j = k
            · rw [e]; exact ⟨hnm, hq⟩
            · exact hne.out j (by omega)
          rw [hq] at HI
          clear hnm hq
          obtain ⟨y, HY⟩ : ∃ y, Hid (at_ ss k = y) := ⟨_, Lib.hid rfl⟩
          rw [HY.out] at hcell HM HI hsz
          go_wp2_with fail
          refine (isName_any y _ hsz).mono ?_
          rw [HM.out]
          rintro e w' ⟨rfl, rfl⟩
          go_wp2_with fail
          refine HI.out.mono ?_
          rintro e w' ⟨rfl, rfl⟩
          go_wp2
          go_round
          case rel => exact ⟨k + 1, by omega, by go_num, hne'⟩
          case measure => simp [intOf]; omega
        · have HB := Lib.hid (actsErr_no e0 (actsB_twice ss k (by have := HN.out; omega) hq))
          rw [hq] at HI
          clear hnm hq
          obtain ⟨y, HY⟩ : ∃ y, Hid (at_ ss k = y) := ⟨_, Lib.hid rfl⟩
          rw [HY.out] at hcell HM HI hsz
          go_wp2_with fail
          refine (isName_any y _ hsz).mono ?_
          rw [HM.out]
          rintro e w' ⟨rfl, rfl⟩
          go_wp2_with fail
          refine HI.out.mono ?_
          rintro e w' ⟨rfl, rfl⟩
          go_wp2
          go_ret
          exact ⟨by rw [HB.out]; rfl, rfl⟩
    · have HB := Lib.hid (actsErr_yes e0 (actsB_good ss (by have := HN.out; omega) (fun j hj => hne.out j (by have := HN.out; omega))))
      go_wp2
      go_ret
      exact ⟨by rw [HB.out]; rfl, rfl⟩

/-- a []string argument: its elements, and its sizes -/
structure StrArg (w : World) (a : Option Addr) (n c : Nat) (ss : List ByteArray) : Prop where
  nil : a = none → c = 0
  len : n = ss.length
  cap : n ≤ c
  big : n ≤ 9223372036854775807
  sz : ∀ k, k < n → (at_ ss k).size ≤ 9223372036854775807
  cells : StrsIn w a ss
theorem StrArg.below {w w' : World} {a : Option Addr} {n c : Nat} {ss : List ByteArray} (h : StrArg w a n c ss) (hb : Below w.heap.size w w') : StrArg w' a n c ss :=
  ⟨h.nil, h.len, h.cap, h.big, h.sz, h.cells.below hb⟩
/-- a []int argument -/
structure IntArg (w : World) (a : Option Addr) (n c : Nat) (xs : List Int) : Prop where
  nil : a = none → c = 0
  len : n = xs.length
  cap : n ≤ c
  big : n ≤ 9223372036854775807
  cells : IntsIn w a xs
theorem IntArg.below {w w' : World} {a : Option Addr} {n c : Nat} {xs : List Int} (h : IntArg w a n c xs) (hb : Below w.heap.size w w') : IntArg w' a n c xs :=
  ⟨h.nil, h.len, h.cap, h.big, h.cells.below hb⟩

theorem checkActions_arg {w : World} {a : Option Addr} {n c : Nat} {ss : List ByteArray} {e0 e1 e2 : Addr} (E : Errs w e0 e1 e2) (A : StrArg w a n c ss) :
    Calls Tryz.prog 60 #[.slice a n c] w fun e w' => e = .returned (actsErr e0 ss) ∧ w = w' :=
  checkActions_any a n c ss w e0 e1 e2 E A.len A.cap A.big A.sz A.cells
theorem Is_arg {w : World} {a : Option Addr} {n c : Nat} {ss : List ByteArray} (A : StrArg w a n c ss) :
    Calls Tryz.prog 30 #[.slice a n c] w fun e w' => e = .returned (.bool (actsB ss)) ∧ w = w' :=
  Is_any a n c ss w A.len A.big A.sz A.cells

/-- act.Check -/
theorem Check_any {w : World} {a : Option Addr} {n c : Nat} {ss : List ByteArray} {e0 e1 e2 : Addr} (E : Errs w e0 e1 e2) (A : StrArg w a n c ss) :
    Calls Tryz.prog 32 #[.slice a n c] w fun e w' => e = .returned (.int .i64 (if actsB ss then 0 else 10)) ∧ w = w' := by
  have HC := Lib.hid (checkActions_arg E A)
  have HE := Lib.hid E
  clear E A
  cases hb : actsB ss
  · rw [actsErr_no e0 hb] at HC
    clear hb
    go_enter Tryz.func32, Tryz.ntmps32
    go_wp2_with fail
    refine HC.out.mono ?_
    rintro e w' ⟨rfl, rfl⟩
    go_wp2_with fail
    refine (code_acts _ _ _ _ HE.out).mono ?_
    rintro e w' ⟨rfl, rfl⟩
    go_wp2
    go_ret
    exact ⟨rfl, rfl⟩
  · rw [actsErr_yes e0 hb] at HC
    clear hb
    go_enter Tryz.func32, Tryz.ntmps32
    go_wp2_with fail
    refine HC.out.mono ?_
    rintro e w' ⟨rfl, rfl⟩
    go_wp2_with fail
    refine (code_nil _ _ _ _ HE.out).mono ?_
    rintro e w' ⟨rfl, rfl⟩
    go_wp2
    go_ret
    exact ⟨rfl, rfl⟩

/-- what Find answers -/
def findV (ss : List ByteArray) (x : ByteArray) : Value :=
  if actsB ss then (if 0 ≤ Lib.idxOfS ss x then .tuple #[.int .i64 (Lib.idxOfS ss x), .bool true, .int .i64 0] else .tuple #[.int .i64 0, .bool false, .int .i64 0])
  else .tuple #[.int .i64 0, .bool false, .int .i64 10]
set_option maxHeartbeats 400000 in
/-- act.Find -/
theorem Find_any {w : World} {a : Option Addr} {n c : Nat} {ss : List ByteArray} {e0 e1 e2 : Addr} (x : ByteArray) (E : Errs w e0 e1 e2) (A : StrArg w a n c ss) :
    Calls Tryz.prog 115 #[.slice a n c, .string x] w fun e w' => e = .returned (findV ss x) ∧ w = w' := by
  have HC := Lib.hid (checkActions_arg E A)
  have HI := Lib.hid (index_any a n c ss x w A.len A.big A.cells)
  have HE := Lib.hid E
  clear E A
  cases hb : actsB ss
  · rw [actsErr_no e0 hb] at HC
    have HV : Hid (findV ss x = .tuple #[.int .i64 0, .bool false, .int .i64 10]) := Lib.hid (by unfold findV; rw [hb]; rfl)
    clear hb
    go_enter Tryz.func115, Tryz.ntmps115
    go_wp2_with fail
    refine HC.out.mono ?_
    rintro e w' ⟨rfl, rfl⟩
    go_wp2_with fail
    refine (code_acts _ _ _ _ HE.out).mono ?_
    rintro e w' ⟨rfl, rfl⟩
    go_wp2
    go_ret3
    exact ⟨by rw [HV.out]; rfl, rfl⟩
  · rw [actsErr_yes e0 hb] at HC
    by_cases hi : 0 ≤ Lib.idxOfS ss x
    · have HV : Hid (findV ss x = .tuple #[.int .i64 (Lib.idxOfS ss x), .bool true, .int .i64 0]) := Lib.hid (by unfold findV; rw [hb, if_pos hi]; rfl)
      clear hb
      go_enter Tryz.func115, Tryz.ntmps115
      go_wp2_with fail
      refine HC.out.mono ?_
      rintro e w' ⟨rfl, rfl⟩
      go_wp2_with fail
      refine HI.out.mono ?_
      rintro e w' ⟨rfl, rfl⟩
      go_wp2
      go_ret3
      exact ⟨by rw [HV.out]; rfl, rfl⟩
    · have HV : Hid (findV ss x = .tuple #[.int .i64 0, .bool false, .int .i64 0]) := Lib.hid (by unfold findV; rw [hb, if_neg hi]; rfl)
      clear hb
      go_enter Tryz.func115, Tryz.ntmps115
      go_wp2_with fail
      refine HC.out.mono ?_
      rintro e w' ⟨rfl, rfl⟩
      go_wp2_with fail
      refine HI.out.mono ?_
      rintro e w' ⟨rfl, rfl⟩
      go_wp2
      go_ret3
      exact ⟨by rw [HV.out]; rfl, rfl⟩

/-- what the check of a list of actions and of sets answers -/
def setsErr (e0 e1 : Addr) (ss : List ByteArray) (xs : List Int) : Value :=
  if actsB ss then (if xs.all (setB ss.length) then .nilIface else .iface 232 (.pointer (some e1))) else .iface 232 (.pointer (some e0))
theorem setsErr_acts (e0 e1 : Addr) {ss : List ByteArray} (xs : List Int) (h : actsB ss = false) : setsErr e0 e1 ss xs = .iface 232 (.pointer (some e0)) := by unfold setsErr; rw [h]; rfl
theorem setsErr_set (e0 e1 : Addr) {ss : List ByteArray} {xs : List Int} (h : actsB ss = true) (hx : xs.all (setB ss.length) = false) : setsErr e0 e1 ss xs = .iface 232 (.pointer (some e1)) := by unfold setsErr; rw [h, hx]; rfl
theorem setsErr_yes (e0 e1 : Addr) {ss : List ByteArray} {xs : List Int} (h : actsB ss = true) (hx : xs.all (setB ss.length) = true) : setsErr e0 e1 ss xs = .nilIface := by unfold setsErr; rw [h, hx]; rfl
theorem sets_bad (n : Nat) (xs : List Int) (k : Nat) (hk : k < xs.length) (h : setB n (xs.getD k 0) = false) : xs.all (setB n) = false := by
  rw [List.all_eq_false]
  refine ⟨xs.getD k 0, ?_, by rw [h]; decide⟩
  rw [List.getD_eq_getElem?_getD, List.getElem?_eq_getElem hk]
  exact List.getElem_mem hk
theorem sets_good (n : Nat) (xs : List Int) (h : ∀ k, k < xs.length → setB n (xs.getD k 0) = true) : xs.all (setB n) = true := by
  rw [List.all_eq_true]
  intro x hx
  obtain ⟨k, hk, rfl⟩ := List.getElem_of_mem hx
  have := h k hk
  rwa [List.getD_eq_getElem?_getD, List.getElem?_eq_getElem hk] at this

set_option maxHeartbeats 400000 in
/-- act.checkSets -/
theorem checkSets_any {w : World} {a : Option Addr} {n c : Nat} {ss : List ByteArray} {e0 e1 e2 : Addr} {a' : Option Addr} {m c' : Nat} {xs : List Int} (E : Errs w e0 e1 e2) (A : StrArg w a n c ss) (X : IntArg w a' m c' xs) :
    Calls Tryz.prog 66 #[.slice a n c, .slice a' m c'] w fun e w' => e = .returned (setsErr e0 e1 ss xs) ∧ w = w' := by
  have HC := Lib.hid (checkActions_arg E A)
  have c1 := E.h1.cell
  have HN := Lib.hid A.len
  have HM := Lib.hid X.len
  have HX := Lib.hid X.cells
  have hm := X.big
  clear E A X
  cases hb : actsB ss
  · rw [actsErr_no e0 hb] at HC
    have HV := Lib.hid (setsErr_acts e0 e1 xs hb)
    clear hb
    go_enter Tryz.func66, Tryz.ntmps66
    go_wp2_with fail
    refine HC.out.mono ?_
    rintro e w' ⟨rfl, rfl⟩
    go_wp2
    go_ret
    exact ⟨by rw [HV.out]; rfl, rfl⟩
  rw [actsErr_yes e0 hb] at HC
  have h8 : n ≤ 8 := by have := ((actsB_iff ss).1 hb).1; have := HN.out; omega
  obtain ⟨p1, p2⟩ := pow_le n (by omega)
  have HB := Lib.hid hb
  clear hb
  go_enter Tryz.func66, Tryz.ntmps66
  go_wp2_with fail
  refine HC.out.mono ?_
  rintro e w' ⟨rfl, rfl⟩
  go_wp2
  go_loop [7, 15] (fun _ i => ∃ k : Nat, k ≤ m ∧ i = .int .i64 k ∧ Hid (∀ j, j < k → setB ss.length (xs.getD j 0) = true)) (fun _ i => m - (intOf i).toNat)
  case atStart => exact ⟨0, Nat.zero_le _, rfl, Lib.hid fun j hj => absurd hj (Nat.not_lt_zero _)⟩
  case round =>
    obtain ⟨k, hk, rfl, hne⟩ := hrel
    by_cases hlt : k < m
    · obtain ⟨b, off, rfl, hcell⟩ := HX.out k (by have := HM.out; omega)
      have HQ := Lib.hid (setB_iff n (xs.getD k 0))
      obtain ⟨y, HY⟩ : ∃ y, Hid (xs.getD k 0 = y) := ⟨_, Lib.hid rfl⟩
      rw [HY.out] at hcell HQ
      have bad : setB n y = false → Hid (setsErr e0 e1 ss xs = .iface 232 (.pointer (some e1))) := fun h =>
        Lib.hid (setsErr_set e0 e1 HB.out (sets_bad _ xs k (by have := HM.out; omega) (by rw [HY.out, ← HN.out]; exact h)))
      by_cases y0 : y < 0
      · have HV := bad (by rw [Bool.eq_false_iff]; intro h; have := HQ.out.1 h; omega)
        clear bad
        go_wp2
        go_ret
        exact ⟨by rw [HV.out]; rfl, rfl⟩
      by_cases y1 : 2 ^ n ≤ y
      · have HV := bad (by rw [Bool.eq_false_iff]; intro h; have := HQ.out.1 h; omega)
        clear bad
        go_wp2
        go_ret
        exact ⟨by rw [HV.out]; rfl, rfl⟩
      have hne' : Hid (∀ j, j < k + 1 → setB ss.length (xs.getD j 0) = true) := Lib.hid fun j hj => by
        by_cases e : j = k
        · rw [e, HY.out, ← HN.out]; exact HQ.out.2 ⟨by omega, by omega⟩
        · exact hne.out j (by omega)
      clear bad
      go_wp2
      go_round
      case rel => exact ⟨k + 1, by omega, by go_num, hne'⟩
      case measure => simp [intOf]; omega
    · have HV := Lib.hid (setsErr_yes e0 e1 HB.out (sets_good _ xs (fun j hj => hne.out j (by have := HM.out; omega))))
      go_wp2
      go_ret
      exact ⟨by rw [HV.out]; rfl, rfl⟩
end Go.Proofs.YtbncofgbpffmkaaGreatDoor
