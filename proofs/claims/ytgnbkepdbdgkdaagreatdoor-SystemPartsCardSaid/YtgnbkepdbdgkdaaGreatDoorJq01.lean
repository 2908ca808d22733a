/- Texts joined: Check, SysPl, Edge. -/
import Derived.Test.YtgnbkepdbdgkdaaGreatDoorJq00
import Derived.Deep.RegionHeld3
import Derived.IntWalk
import Derived.Deep.QuietTactic
import Derived.BigQuiet
import Derived.WalkSmall
/- The errors of package act as the variables hold them; its functions that check, and Find. -/
namespace Go.Proofs.YtgnbkepdbdgkdaaGreatDoor
open Go.RowKit Pl

/-- what a package-level error variable holds -/
structure ErrAt (w : World) (g : Nat) (a : Addr) : Prop where
  cell : w.cell? ⟨g, 0, none⟩ = some (.iface 314 (.pointer (some a)))
  row : ∃ c t, w.heap[a.block]? = some (.cells c t (0, 0))
/-- the three errors of package act, different from each other -/
structure Errs (w : World) (e0 e1 e2 : Addr) : Prop where
  h0 : ErrAt w 0 e0
  h1 : ErrAt w 1 e1
  h2 : ErrAt w 2 e2
  n01 : e0 ≠ e1
  n02 : e0 ≠ e2
  n12 : e1 ≠ e2
theorem ErrAt.below {w w' : World} {g : Nat} {a : Addr} (h : ErrAt w g a) (hb : Below w.heap.size w w') : ErrAt w' g a := by
  refine ⟨(hb.cell (lt_of_cell h.cell)).trans h.cell, ?_⟩
  obtain ⟨c, t, hr⟩ := h.row
  exact ⟨c, t, (hb.block _ (Array.getElem?_eq_some_iff.1 hr).1).trans hr⟩
theorem Errs.below {w w' : World} {e0 e1 e2 : Addr} (h : Errs w e0 e1 e2) (hb : Below w.heap.size w w') : Errs w' e0 e1 e2 :=
  ⟨h.h0.below hb, h.h1.below hb, h.h2.below hb, h.n01, h.n02, h.n12⟩
theorem is_not {w : World} {g h : Nat} {a b : Addr} (ha : ErrAt w g a) (hb : ErrAt w h b) (hne : a ≠ b) :
    Calls Tryz.prog 140 #[.iface 314 (.pointer (some a)), .iface 314 (.pointer (some b))] w fun e w' => e = .returned (.bool false) ∧ w = w' := by
  obtain ⟨c, t, hr⟩ := ha.row
  obtain ⟨c', t', hr'⟩ := hb.row
  exact is_other a b c c' t t' w hne hr hr'

/-- act.code: 0 for nil -/
theorem code_nil (w : World) (e0 e1 e2 : Addr) (E : Errs w e0 e1 e2) :
    Calls Tryz.prog 107 #[.nilIface] w fun e w' => e = .returned (.int .i64 0) ∧ w = w' := by
  have c0 := E.h0.cell
  have c1 := E.h1.cell
  have c2 := E.h2.cell
  go_enter Tryz.func107, Tryz.ntmps107
  go_wp2_with fail
  refine (is_nil _ _).mono ?_
  rintro e w' ⟨rfl, rfl⟩
  go_wp2_with fail
  refine (is_nil _ _).mono ?_
  rintro e w' ⟨rfl, rfl⟩
  go_wp2_with fail
  refine (is_nil _ _).mono ?_
  rintro e w' ⟨rfl, rfl⟩
  go_wp2
  go_ret
  exact ⟨rfl, rfl⟩
theorem code_acts (w : World) (e0 e1 e2 : Addr) (E : Errs w e0 e1 e2) :
    Calls Tryz.prog 107 #[.iface 314 (.pointer (some e0))] w fun e w' => e = .returned (.int .i64 10) ∧ w = w' := by
  have c0 := E.h0.cell
  go_enter Tryz.func107, Tryz.ntmps107
  go_wp2_with fail
  refine (is_same _ _).mono ?_
  rintro e w' ⟨rfl, rfl⟩
  go_wp2
  go_ret
  exact ⟨rfl, rfl⟩
theorem code_set (w : World) (e0 e1 e2 : Addr) (E : Errs w e0 e1 e2) :
    Calls Tryz.prog 107 #[.iface 314 (.pointer (some e1))] w fun e w' => e = .returned (.int .i64 1) ∧ w = w' := by
  have c0 := E.h0.cell
  have c1 := E.h1.cell
  go_enter Tryz.func107, Tryz.ntmps107
  go_wp2_with fail
  refine (is_not E.h1 E.h0 E.n01.symm).mono ?_
  rintro e w' ⟨rfl, rfl⟩
  go_wp2_with fail
  refine (is_same _ _).mono ?_
  rintro e w' ⟨rfl, rfl⟩
  go_wp2
  go_ret
  exact ⟨rfl, rfl⟩
theorem code_text (w : World) (e0 e1 e2 : Addr) (E : Errs w e0 e1 e2) :
    Calls Tryz.prog 107 #[.iface 314 (.pointer (some e2))] w fun e w' => e = .returned (.int .i64 11) ∧ w = w' := by
  have c0 := E.h0.cell
  have c1 := E.h1.cell
  have c2 := E.h2.cell
  go_enter Tryz.func107, Tryz.ntmps107
  go_wp2_with fail
  refine (is_not E.h2 E.h0 E.n02.symm).mono ?_
  rintro e w' ⟨rfl, rfl⟩
  go_wp2_with fail
  refine (is_not E.h2 E.h1 E.n12.symm).mono ?_
  rintro e w' ⟨rfl, rfl⟩
  go_wp2_with fail
  refine (is_same _ _).mono ?_
  rintro e w' ⟨rfl, rfl⟩
  go_wp2
  go_ret
  exact ⟨rfl, rfl⟩

/-- what the check of a list of actions answers -/
def actsErr (e0 : Addr) (ss : List ByteArray) : Value := if actsB ss = true then .nilIface else .iface 314 (.pointer (some e0))
theorem actsErr_yes (e0 : Addr) {ss : List ByteArray} (h : actsB ss = true) : actsErr e0 ss = .nilIface := if_pos h
theorem actsErr_no (e0 : Addr) {ss : List ByteArray} (h : actsB ss = false) : actsErr e0 ss = .iface 314 (.pointer (some e0)) := by unfold actsErr; rw [h]; rfl

set_option maxHeartbeats 400000 in
/-- act.checkActions -/
theorem checkActions_any (a : Option Addr) (n c : Nat) (ss : List ByteArray) (w : World) (e0 e1 e2 : Addr) (E : Errs w e0 e1 e2) (hn : n = ss.length) (hcap : n ≤ c) (hbig : n ≤ 9223372036854775807) (hs : ∀ k, k < n → (at_ ss k).size ≤ 9223372036854775807) (hc : StrsIn w a ss) :
    Calls Tryz.prog 108 #[.slice a n c] w fun e w' => e = .returned (actsErr e0 ss) ∧ w = w' := by
  have HN := Lib.hid hn
  have HC := Lib.hid hc
  have HS := Lib.hid hs
  have c0 := E.h0.cell
  clear hn hc hs
  by_cases h8 : 8 < n
  · have HB := Lib.hid (actsErr_no e0 (actsB_long ss (by have := HN.out; omega)))
    go_enter Tryz.func108, Tryz.ntmps108
    go_wp2
    go_ret
    exact ⟨by rw [HB.out]; rfl, rfl⟩
  go_enter Tryz.func108, Tryz.ntmps108
  go_wp2
  go_loop [3, 4, 11] (fun _ _ i => ∃ k : Nat, k ≤ n ∧ i = .int .i64 k ∧ Hid (∀ j, j < k → nameB (at_ ss j) = true ∧ Lib.containsS (ss.take j) (at_ ss j) = false)) (fun _ _ i => n - (intOf i).toNat)
  case atStart => exact ⟨0, Nat.zero_le _, rfl, Lib.hid fun j hj => absurd hj (Nat.not_lt_zero _)⟩
  case round =>
    obtain ⟨k, hk, rfl, hne⟩ := hrel
    by_cases hlt : k < n
    · obtain ⟨b, off, rfl, hcell⟩ := HC.out k (by have := HN.out; omega)
      have hsz := HS.out k hlt
      change w.cell? _ = some (.string (at_ ss k)) at hcell
      cases hnm : nameB (at_ ss k)
      · have HB := Lib.hid (actsErr_no e0 (actsB_name ss k (by have := HN.out; omega) hnm))
        have HM := Lib.hid hnm
        clear hnm
        obtain ⟨y, HY⟩ : ∃ y, Hid (at_ ss k = y) := ⟨_, Lib.hid rfl⟩
        rw [HY.out] at hcell HM hsz
        go_wp2_with fail
        refine (isName_any y _ hsz).mono ?_
        rw [HM.out]
        rintro e w' ⟨rfl, rfl⟩
        go_wp2
        go_ret
        exact ⟨by rw [HB.out]; rfl, rfl⟩
      · have HM := Lib.hid hnm
        have HI := Lib.hid (contains_any (some ⟨b, off, none⟩) k c (ss.take k) (at_ ss k) w (by have := HN.out; rw [List.length_take]; omega) (by omega) (HC.out.take k))
        cases hq : Lib.containsS (ss.take k) (at_ ss k)
        · have hne' : Hid (∀ j, j < k + 1 → nameB (at_ ss j) = true ∧ Lib.containsS (ss.take j) (at_ ss j) = false) := Lib.hid fun j hj => by
            by_cases e : j = k
            · rw [e]; exact ⟨hnm, hq⟩
            · exact hne.out j (by omega)
          rw [hq] at HI
          clear hnm hq
          obtain ⟨y, HY⟩ : ∃ y, Hid (at_ ss k = y) := ⟨_, Lib.hid rfl⟩
          rw [HY.out] at hcell HM HI hsz
          go_wp2_with fail
          refine (isName_any y _ hsz).mono ?_
          rw [HM.out]
          rintro e w' ⟨rfl, rfl⟩
          go_wp2_with fail
          refine HI.out.mono ?_
          rintro e w' ⟨rfl, rfl⟩
          go_wp2
          go_round
          case rel => exact ⟨k + 1, by omega, by go_num, hne'⟩
          case measure => simp [intOf]; omega
        · have HB := Lib.hid (actsErr_no e0 (actsB_twice ss k (by have := HN.out; omega) hq))
          rw [hq] at HI
          clear hnm hq
          obtain ⟨y, HY⟩ : ∃ y, Hid (at_ ss k = y) := ⟨_, Lib.hid rfl⟩
          rw [HY.out] at hcell HM HI hsz
          go_wp2_with fail
          refine (isName_any y _ hsz).mono ?_
          rw [HM.out]
          rintro e w' ⟨rfl, rfl⟩
          go_wp2_with fail
          refine HI.out.mono ?_
          rintro e w' ⟨rfl, rfl⟩
          go_wp2
          go_ret
          exact ⟨by rw [HB.out]; rfl, rfl⟩
    · have HB := Lib.hid (actsErr_yes e0 (actsB_good ss (by have := HN.out; omega) (fun j hj => hne.out j (by have := HN.out; omega))))
      go_wp2
      go_ret
      exact ⟨by rw [HB.out]; rfl, rfl⟩

/-- a []string argument: its elements, and its sizes -/
structure StrArg (w : World) (a : Option Addr) (n c : Nat) (ss : List ByteArray) : Prop where
  nil : a = none → c = 0
  len : n = ss.length
  cap : n ≤ c
  big : n ≤ 9223372036854775807
  sz : ∀ k, k < n → (at_ ss k).size ≤ 9223372036854775807
  cells : StrsIn w a ss
theorem StrArg.below {w w' : World} {a : Option Addr} {n c : Nat} {ss : List ByteArray} (h : StrArg w a n c ss) (hb : Below w.heap.size w w') : StrArg w' a n c ss :=
  ⟨h.nil, h.len, h.cap, h.big, h.sz, h.cells.below hb⟩
/-- a []int argument -/
structure IntArg (w : World) (a : Option Addr) (n c : Nat) (xs : List Int) : Prop where
  nil : a = none → c = 0
  len : n = xs.length
  cap : n ≤ c
  big : n ≤ 9223372036854775807
  cells : IntsIn w a xs
theorem IntArg.below {w w' : World} {a : Option Addr} {n c : Nat} {xs : List Int} (h : IntArg w a n c xs) (hb : Below w.heap.size w w') : IntArg w' a n c xs :=
  ⟨h.nil, h.len, h.cap, h.big, h.cells.below hb⟩

theorem checkActions_arg {w : World} {a : Option Addr} {n c : Nat} {ss : List ByteArray} {e0 e1 e2 : Addr} (E : Errs w e0 e1 e2) (A : StrArg w a n c ss) :
    Calls Tryz.prog 108 #[.slice a n c] w fun e w' => e = .returned (actsErr e0 ss) ∧ w = w' :=
  checkActions_any a n c ss w e0 e1 e2 E A.len A.cap A.big A.sz A.cells
theorem Is_arg {w : World} {a : Option Addr} {n c : Nat} {ss : List ByteArray} (A : StrArg w a n c ss) :
    Calls Tryz.prog 41 #[.slice a n c] w fun e w' => e = .returned (.bool (actsB ss)) ∧ w = w' :=
  Is_any a n c ss w A.len A.big A.sz A.cells

/-- act.Check -/
theorem Check_any {w : World} {a : Option Addr} {n c : Nat} {ss : List ByteArray} {e0 e1 e2 : Addr} (E : Errs w e0 e1 e2) (A : StrArg w a n c ss) :
    Calls Tryz.prog 73 #[.slice a n c] w fun e w' => e = .returned (.int .i64 (if actsB ss then 0 else 10)) ∧ w = w' := by
  have HC := Lib.hid (checkActions_arg E A)
  have HE := Lib.hid E
  clear E A
  cases hb : actsB ss
  · rw [actsErr_no e0 hb] at HC
    clear hb
    go_enter Tryz.func73, Tryz.ntmps73
    go_wp2_with fail
    refine HC.out.mono ?_
    rintro e w' ⟨rfl, rfl⟩
    go_wp2_with fail
    refine (code_acts _ _ _ _ HE.out).mono ?_
    rintro e w' ⟨rfl, rfl⟩
    go_wp2
    go_ret
    exact ⟨rfl, rfl⟩
  · rw [actsErr_yes e0 hb] at HC
    clear hb
    go_enter Tryz.func73, Tryz.ntmps73
    go_wp2_with fail
    refine HC.out.mono ?_
    rintro e w' ⟨rfl, rfl⟩
    go_wp2_with fail
    refine (code_nil _ _ _ _ HE.out).mono ?_
    rintro e w' ⟨rfl, rfl⟩
    go_wp2
    go_ret
    exact ⟨rfl, rfl⟩

/-- what Find answers -/
def findV (ss : List ByteArray) (x : ByteArray) : Value :=
  if actsB ss then (if 0 ≤ Lib.idxOfS ss x then .tuple #[.int .i64 (Lib.idxOfS ss x), .bool true, .int .i64 0] else .tuple #[.int .i64 0, .bool false, .int .i64 0])
  else .tuple #[.int .i64 0, .bool false, .int .i64 10]
set_option maxHeartbeats 400000 in
/-- act.Find -/
theorem Find_any {w : World} {a : Option Addr} {n c : Nat} {ss : List ByteArray} {e0 e1 e2 : Addr} (x : ByteArray) (E : Errs w e0 e1 e2) (A : StrArg w a n c ss) :
    Calls Tryz.prog 118 #[.slice a n c, .string x] w fun e w' => e = .returned (findV ss x) ∧ w = w' := by
  have HC := Lib.hid (checkActions_arg E A)
  have HI := Lib.hid (index_any a n c ss x w A.len A.big A.cells)
  have HE := Lib.hid E
  clear E A
  cases hb : actsB ss
  · rw [actsErr_no e0 hb] at HC
    have HV : Hid (findV ss x = .tuple #[.int .i64 0, .bool false, .int .i64 10]) := Lib.hid (by unfold findV; rw [hb]; rfl)
    clear hb
    go_enter Tryz.func118, Tryz.ntmps118
    go_wp2_with fail
    refine HC.out.mono ?_
    rintro e w' ⟨rfl, rfl⟩
    go_wp2_with fail
    refine (code_acts _ _ _ _ HE.out).mono ?_
    rintro e w' ⟨rfl, rfl⟩
    go_wp2
    go_ret3
    exact ⟨by rw [HV.out]; rfl, rfl⟩
  · rw [actsErr_yes e0 hb] at HC
    by_cases hi : 0 ≤ Lib.idxOfS ss x
    · have HV : Hid (findV ss x = .tuple #[.int .i64 (Lib.idxOfS ss x), .bool true, .int .i64 0]) := Lib.hid (by unfold findV; rw [hb, if_pos hi]; rfl)
      clear hb
      go_enter Tryz.func118, Tryz.ntmps118
      go_wp2_with fail
      refine HC.out.mono ?_
      rintro e w' ⟨rfl, rfl⟩
      go_wp2_with fail
      refine HI.out.mono ?_
      rintro e w' ⟨rfl, rfl⟩
      go_wp2
      go_ret3
      exact ⟨by rw [HV.out]; rfl, rfl⟩
    · have HV : Hid (findV ss x = .tuple #[.int .i64 0, .bool false, .int .i64 0]) := Lib.hid (by unfold findV; rw [hb, if_neg hi]; rfl)
      clear hb
      go_enter Tryz.func118, Tryz.ntmps118
      go_wp2_with fail
      refine HC.out.mono ?_
      rintro e w' ⟨rfl, rfl⟩
      go_wp2_with fail
      refine HI.out.mono ?_
      rintro e w' ⟨rfl, rfl⟩
      go_wp2
      go_ret3
      exact ⟨by rw [HV.out]; rfl, rfl⟩

/-- what the check of a list of actions and of sets answers -/
def setsErr (e0 e1 : Addr) (ss : List ByteArray) (xs : List Int) : Value :=
  if actsB ss then (if xs.all (setB ss.length) then .nilIface else .iface 314 (.pointer (some e1))) else .iface 314 (.pointer (some e0))
theorem setsErr_acts (e0 e1 : Addr) {ss : List ByteArray} (xs : List Int) (h : actsB ss = false) : setsErr e0 e1 ss xs = .iface 314 (.pointer (some e0)) := by unfold setsErr; rw [h]; rfl
theorem setsErr_set (e0 e1 : Addr) {ss : List ByteArray} {xs : List Int} (h : actsB ss = true) (hx : xs.all (setB ss.length) = false) : setsErr e0 e1 ss xs = .iface 314 (.pointer (some e1)) := by unfold setsErr; rw [h, hx]; rfl
theorem setsErr_yes (e0 e1 : Addr) {ss : List ByteArray} {xs : List Int} (h : actsB ss = true) (hx : xs.all (setB ss.length) = true) : setsErr e0 e1 ss xs = .nilIface := by unfold setsErr; rw [h, hx]; rfl
theorem sets_bad (n : Nat) (xs : List Int) (k : Nat) (hk : k < xs.length) (h : setB n (xs.getD k 0) = false) : xs.all (setB n) = false := by
  rw [List.all_eq_false]
  refine ⟨xs.getD k 0, ?_, by rw [h]; decide⟩
  rw [List.getD_eq_getElem?_getD, List.getElem?_eq_getElem hk]
  exact List.getElem_mem hk
theorem sets_good (n : Nat) (xs : List Int) (h : ∀ k, k < xs.length → setB n (xs.getD k 0) = true) : xs.all (setB n) = true := by
  rw [List.all_eq_true]
  intro x hx
  obtain ⟨k, hk, rfl⟩ := List.getElem_of_mem hx
  have := h k hk
  rwa [List.getD_eq_getElem?_getD, List.getElem?_eq_getElem hk] at this

set_option maxHeartbeats 400000 in
/-- act.checkSets -/
theorem checkSets_any {w : World} {a : Option Addr} {n c : Nat} {ss : List ByteArray} {e0 e1 e2 : Addr} {a' : Option Addr} {m c' : Nat} {xs : List Int} (E : Errs w e0 e1 e2) (A : StrArg w a n c ss) (X : IntArg w a' m c' xs) :
    Calls Tryz.prog 114 #[.slice a n c, .slice a' m c'] w fun e w' => e = .returned (setsErr e0 e1 ss xs) ∧ w = w' := by
  have HC := Lib.hid (checkActions_arg E A)
  have c1 := E.h1.cell
  have HN := Lib.hid A.len
  have HM := Lib.hid X.len
  have HX := Lib.hid X.cells
  have hm := X.big
  clear E A X
  cases hb : actsB ss
  · rw [actsErr_no e0 hb] at HC
    have HV := Lib.hid (setsErr_acts e0 e1 xs hb)
    clear hb
    go_enter Tryz.func114, Tryz.ntmps114
    go_wp2_with fail
    refine HC.out.mono ?_
    rintro e w' ⟨rfl, rfl⟩
    go_wp2
    go_ret
    exact ⟨by rw [HV.out]; rfl, rfl⟩
  rw [actsErr_yes e0 hb] at HC
  have h8 : n ≤ 8 := by have := ((actsB_iff ss).1 hb).1; have := HN.out; omega
  obtain ⟨p1, p2⟩ := pow_le n (by omega)
  have HB := Lib.hid hb
  clear hb
  go_enter Tryz.func114, Tryz.ntmps114
  go_wp2_with fail
  refine HC.out.mono ?_
  rintro e w' ⟨rfl, rfl⟩
  go_wp2
  go_loop [7, 15] (fun _ i => ∃ k : Nat, k ≤ m ∧ i = .int .i64 k ∧ Hid (∀ j, j < k → setB ss.length (xs.getD j 0) = true)) (fun _ i => m - (intOf i).toNat)
  case atStart => exact ⟨0, Nat.zero_le _, rfl, Lib.hid fun j hj => absurd hj (Nat.not_lt_zero _)⟩
  case round =>
    obtain ⟨k, hk, rfl, hne⟩ := hrel
    by_cases hlt : k < m
    · obtain ⟨b, off, rfl, hcell⟩ := HX.out k (by have := HM.out; omega)
      have HQ := Lib.hid (setB_iff n (xs.getD k 0))
      obtain ⟨y, HY⟩ : ∃ y, Hid (xs.getD k 0 = y) := ⟨_, Lib.hid rfl⟩
      rw [HY.out] at hcell HQ
      have bad : setB n y = false → Hid (setsErr e0 e1 ss xs = .iface 314 (.pointer (some e1))) := fun h =>
        Lib.hid (setsErr_set e0 e1 HB.out (sets_bad _ xs k (by have := HM.out; omega) (by rw [HY.out, ← HN.out]; exact h)))
      by_cases y0 : y < 0
      · have HV := bad (by rw [Bool.eq_false_iff]; intro h; have := HQ.out.1 h; omega)
        clear bad
        go_wp2
        go_ret
        exact ⟨by rw [HV.out]; rfl, rfl⟩
      by_cases y1 : 2 ^ n ≤ y
      · have HV := bad (by rw [Bool.eq_false_iff]; intro h; have := HQ.out.1 h; omega)
        clear bad
        go_wp2
        go_ret
        exact ⟨by rw [HV.out]; rfl, rfl⟩
      have hne' : Hid (∀ j, j < k + 1 → setB ss.length (xs.getD j 0) = true) := Lib.hid fun j hj => by
        by_cases e : j = k
        · rw [e, HY.out, ← HN.out]; exact HQ.out.2 ⟨by omega, by omega⟩
        · exact hne.out j (by omega)
      clear bad
      go_wp2
      go_round
      case rel => exact ⟨k + 1, by omega, by go_num, hne'⟩
      case measure => simp [intOf]; omega
    · have HV := Lib.hid (setsErr_yes e0 e1 HB.out (sets_good _ xs (fun j hj => hne.out j (by have := HM.out; omega))))
      go_wp2
      go_ret
      exact ⟨by rw [HV.out]; rfl, rfl⟩
end Go.Proofs.YtgnbkepdbdgkdaaGreatDoor
/- Plain facts about systems: validity, and the lists of edges; nothing here is about a program. -/
namespace Go.Proofs.YtgnbkepdbdgkdaaGreatDoor.Pl
open Go Go.Lib

abbrev Edg := Int × Int
/-- a system: the names of its actions, and the edges (action, state) of each state -/
structure Syst where
  acts : List ByteArray
  states : List (List Edg)

def stAt (s : List (List Edg)) (i : Nat) : List Edg := s.getD i []
def edAt (l : List Edg) (k : Nat) : Edg := l.getD k (0, 0)
/-- an edge precedes another one -/
def ltE (d e : Edg) : Bool := decide (d.1 < e.1) || (decide (d.1 = e.1) && decide (d.2 < e.2))
theorem ltE_iff (d e : Edg) : ltE d e = true ↔ d.1 < e.1 ∨ (d.1 = e.1 ∧ d.2 < e.2) := by simp [ltE]
theorem ltE_false (d e : Edg) : ltE d e = false ↔ e.1 < d.1 ∨ (d.1 = e.1 ∧ e.2 ≤ d.2) := by
  rw [Bool.eq_false_iff, Ne, ltE_iff]; omega
def okE (na ns : Nat) (e : Edg) : Bool := decide (0 ≤ e.1) && decide (e.1 < na) && decide (0 ≤ e.2) && decide (e.2 < ns)
theorem okE_iff (na ns : Nat) (e : Edg) : okE na ns e = true ↔ 0 ≤ e.1 ∧ e.1 < na ∧ 0 ≤ e.2 ∧ e.2 < ns := by simp [okE, and_assoc]
/-- the test of the edge at a place -/
def edgeB (na ns : Nat) (l : List Edg) (k : Nat) : Bool := okE na ns (edAt l k) && (decide (k = 0) || ltE (edAt l (k - 1)) (edAt l k))
def edgesB (na ns : Nat) (l : List Edg) : Bool := (List.range l.length).all (edgeB na ns l)
theorem edgesB_iff (na ns : Nat) (l : List Edg) : edgesB na ns l = true ↔ ∀ k, k < l.length → edgeB na ns l k = true := by simp [edgesB]
theorem edgesB_bad {na ns : Nat} {l : List Edg} {k : Nat} (hk : k < l.length) (h : edgeB na ns l k = false) : edgesB na ns l = false := by
  rw [Bool.eq_false_iff, Ne, edgesB_iff]
  intro h'
  rw [h' k hk] at h; cases h
theorem edgesB_good {na ns : Nat} {l : List Edg} (h : ∀ k, k < l.length → edgeB na ns l k = true) : edgesB na ns l = true := (edgesB_iff na ns l).2 h
theorem edgeB_out {na ns : Nat} {l : List Edg} {k : Nat} (h : okE na ns (edAt l k) = false) : edgeB na ns l k = false := by simp [edgeB, h]
theorem edgeB_back {na ns : Nat} {l : List Edg} {k : Nat} (h0 : 0 < k) (h : ltE (edAt l (k - 1)) (edAt l k) = false) : edgeB na ns l k = false := by
  have : decide (k = 0) = false := by simp; omega
  simp [edgeB, h, this]
theorem edgeB_zero {na ns : Nat} {l : List Edg} (h : okE na ns (edAt l 0) = true) : edgeB na ns l 0 = true := by simp [edgeB, h]
theorem edgeB_next {na ns : Nat} {l : List Edg} {k : Nat} (h : okE na ns (edAt l k) = true) (h' : ltE (edAt l (k - 1)) (edAt l k) = true) : edgeB na ns l k = true := by simp [edgeB, h, h']

/-- the number of edges -/
def total (s : List (List Edg)) : Nat := (s.map List.length).sum
theorem total_nil : total [] = 0 := rfl
theorem total_snoc (s : List (List Edg)) (l : List Edg) : total (s ++ [l]) = total s + l.length := by simp [total]
theorem take_next {α : Type} (s : List α) (k : Nat) (d : α) (h : k < s.length) : s.take (k + 1) = s.take k ++ [s.getD k d] := by
  rw [List.take_succ_eq_append_getElem h, List.getD_eq_getElem?_getD, List.getElem?_eq_getElem h]; rfl
theorem total_take (s : List (List Edg)) (k : Nat) (h : k < s.length) : total (s.take (k + 1)) = total (s.take k) + (stAt s k).length := by
  rw [take_next s k [] h, total_snoc]; rfl
theorem total_take_le (s : List (List Edg)) : ∀ (k : Nat), total (s.take k) ≤ total s := by
  intro k
  have e : total s = total (s.take k) + total (s.drop k) := by
    unfold total
    rw [List.map_take, List.map_drop, ← List.sum_append, List.take_append_drop]
  omega

/-- a valid system -/
def sysB (m : Syst) : Bool :=
  actsB m.acts && decide (1 ≤ m.states.length) && decide (m.states.length ≤ 5000) && (List.range m.states.length).all (fun i => edgesB m.acts.length m.states.length (stAt m.states i)) && decide (total m.states ≤ 400000)
theorem sysB_iff (m : Syst) : sysB m = true ↔ actsB m.acts = true ∧ 1 ≤ m.states.length ∧ m.states.length ≤ 5000 ∧ (∀ i, i < m.states.length → edgesB m.acts.length m.states.length (stAt m.states i) = true) ∧ total m.states ≤ 400000 := by
  simp [sysB, and_assoc]
theorem sysB_acts {m : Syst} (h : actsB m.acts = false) : sysB m = false := by simp [sysB, h]
theorem sysB_few {m : Syst} (h : m.states.length < 1) : sysB m = false := by
  rw [Bool.eq_false_iff, Ne, sysB_iff]; omega
theorem sysB_many {m : Syst} (h : 5000 < m.states.length) : sysB m = false := by
  rw [Bool.eq_false_iff, Ne, sysB_iff]; omega
theorem sysB_total {m : Syst} (h : 400000 < total m.states) : sysB m = false := by
  rw [Bool.eq_false_iff, Ne, sysB_iff]; omega
theorem sysB_edges {m : Syst} (i : Nat) (hi : i < m.states.length) (h : edgesB m.acts.length m.states.length (stAt m.states i) = false) : sysB m = false := by
  rw [Bool.eq_false_iff, Ne, sysB_iff]
  rintro ⟨_, _, _, h', _⟩
  rw [h' i hi] at h; cases h
theorem sysB_good {m : Syst} (h1 : actsB m.acts = true) (h2 : 1 ≤ m.states.length) (h3 : m.states.length ≤ 5000) (h4 : ∀ i, i < m.states.length → edgesB m.acts.length m.states.length (stAt m.states i) = true) (h5 : total m.states ≤ 400000) : sysB m = true :=
  (sysB_iff m).2 ⟨h1, h2, h3, h4, h5⟩

/-- at most so many parts -/
def fewB (m : Syst) (most : Nat) : Bool := decide (m.acts.length + m.states.length + total m.states ≤ most)
theorem fewB_iff (m : Syst) (most : Nat) : fewB m most = true ↔ m.acts.length + m.states.length + total m.states ≤ most := by simp [fewB]
end Go.Proofs.YtgnbkepdbdgkdaaGreatDoor.Pl
/- Edges in memory; compareEdges, areEdges; the reference's before. -/
namespace Go.Proofs.YtgnbkepdbdgkdaaGreatDoor
open Go.RowKit Pl

/-- a list of edges at an address: two cells for each -/
def EdgesIn (w : World) (a : Option Addr) (l : List Edg) : Prop :=
  ∀ k, k < l.length → ∃ b off, a = some ⟨b, off, none⟩ ∧ w.cell? ⟨b, off + k * 2, none⟩ = some (.int .i64 (edAt l k).1) ∧ w.cell? ⟨b, off + k * 2 + 1, none⟩ = some (.int .i64 (edAt l k).2)
structure EdgeArg (w : World) (a : Option Addr) (n c : Nat) (l : List Edg) : Prop where
  nil : a = none → c = 0
  len : n = l.length
  cap : n ≤ c
  big : n ≤ 140737488355328
  cells : EdgesIn w a l
theorem EdgesIn.below {w w' : World} {a : Option Addr} {l : List Edg} (h : EdgesIn w a l) (hb : Below w.heap.size w w') : EdgesIn w' a l := fun k hk => by
  obtain ⟨b, off, e, h1, h2⟩ := h k hk
  exact ⟨b, off, e, (hb.cell (lt_of_cell h1)).trans h1, (hb.cell (lt_of_cell h2)).trans h2⟩
theorem EdgeArg.below {w w' : World} {a : Option Addr} {n c : Nat} {l : List Edg} (h : EdgeArg w a n c l) (hb : Below w.heap.size w w') : EdgeArg w' a n c l :=
  ⟨h.nil, h.len, h.cap, h.big, h.cells.below hb⟩

def cmpV (a b : Int) : Int := if a < b then -1 else if b < a then 1 else 0
theorem cmpV_lt {a b : Int} (h : a < b) : cmpV a b = -1 := if_pos h
theorem cmpV_gt {a b : Int} (h : b < a) : cmpV a b = 1 := by unfold cmpV; rw [if_neg (by omega), if_pos h]
theorem cmpV_eq {a b : Int} (h : a = b) : cmpV a b = 0 := by unfold cmpV; rw [if_neg (by omega), if_neg (by omega)]
theorem nan_any (a : Int) (w : World) : Calls Tryz.prog 164 #[.int .i64 a] w fun e w' => e = .returned (.bool false) ∧ w = w' := by
  go_enter Tryz.func164, Tryz.ntmps164
  go_wp2
  go_ret
  exact ⟨rfl, rfl⟩
theorem compare_any (a b : Int) (w : World) : Calls Tryz.prog 123 #[.int .i64 a, .int .i64 b] w fun e w' => e = .returned (.int .i64 (cmpV a b)) ∧ w = w' := by
  rcases Int.lt_trichotomy a b with h | h | h
  · have HV := Lib.hid (cmpV_lt h)
    go_enter Tryz.func123, Tryz.ntmps123
    go_wp2_with (go_at_call 164; refine (nan_any _ _).mono ?_; rintro e w' ⟨rfl, rfl⟩)
    go_ret
    exact ⟨by rw [HV.out]; rfl, rfl⟩
  · have HV := Lib.hid (cmpV_eq h)
    subst h
    go_enter Tryz.func123, Tryz.ntmps123
    go_wp2_with (go_at_call 164; refine (nan_any _ _).mono ?_; rintro e w' ⟨rfl, rfl⟩)
    go_ret
    exact ⟨by rw [HV.out]; rfl, rfl⟩
  · have HV := Lib.hid (cmpV_gt h)
    have h' : ¬ a < b := by omega
    go_enter Tryz.func123, Tryz.ntmps123
    go_wp2_with (go_at_call 164; refine (nan_any _ _).mono ?_; rintro e w' ⟨rfl, rfl⟩)
    go_ret
    exact ⟨by rw [HV.out]; rfl, rfl⟩
def orV (a b : Int) : Int := if a = 0 then b else a
theorem or_any (b off : Nat) (x y : Int) (w : World) (hx : w.cell? ⟨b, off, none⟩ = some (.int .i64 x)) (hy : w.cell? ⟨b, off + 1, none⟩ = some (.int .i64 y)) :
    Calls Tryz.prog 122 #[.slice (some ⟨b, off, none⟩) 2 2] w fun e w' => e = .returned (.int .i64 (orV x y)) ∧ w = w' := by
  by_cases hx0 : x = 0
  · have HV : Hid (orV x y = y) := Lib.hid (if_pos hx0)
    subst hx0
    by_cases hy0 : y = 0
    · subst hy0
      go_enter Tryz.func122, Tryz.ntmps122
      go_wp2
      refine wp_loop_rounds 3 ?_
      rw [rounds_succ]
      go_wp2
      rw [rounds_succ]
      go_wp2
      rw [rounds_succ]
      go_wp2
      go_ret
      exact ⟨by rw [HV.out]; rfl, rfl⟩
    · have hy1 : (y != 0) = true := by simpa using hy0
      clear hy0
      go_enter Tryz.func122, Tryz.ntmps122
      go_wp2
      refine wp_loop_rounds 3 ?_
      rw [rounds_succ]
      go_wp2
      rw [rounds_succ]
      go_wp2
      go_ret
      exact ⟨by rw [HV.out]; rfl, rfl⟩
  · have HV : Hid (orV x y = x) := Lib.hid (if_neg hx0)
    have hx1 : (x != 0) = true := by simpa using hx0
    clear hx0
    go_enter Tryz.func122, Tryz.ntmps122
    go_wp2
    refine wp_loop_rounds 3 ?_
    rw [rounds_succ]
    go_wp2
    go_ret
    exact ⟨by rw [HV.out]; rfl, rfl⟩

/-- compareEdges -/
def cmpE (d e : Edg) : Int := orV (cmpV d.1 e.1) (cmpV d.2 e.2)
theorem cmpE_lt (d e : Edg) : cmpE d e < 0 ↔ ltE d e = true := by
  rw [ltE_iff]
  unfold cmpE orV cmpV
  split <;> split <;> (try split) <;> (try split) <;> omega
theorem compareEdges_at (d1 d2 e1 e2 : Int) (w : World) :
    Calls Tryz.prog 94 #[.agg #[.int .i64 d1, .int .i64 d2], .agg #[.int .i64 e1, .int .i64 e2]] w fun e w' => e = .returned (.int .i64 (cmpE (d1, d2) (e1, e2))) ∧
      (((w.alloc (.cells #[.int .i64 d1, .int .i64 d2] 87)).alloc (.cells #[.int .i64 e1, .int .i64 e2] 87)).alloc (.cells #[.int .i64 (cmpV d1 e1), .int .i64 (cmpV d2 e2)] 3)).drew = w' := by
  go_enter Tryz.func94, Tryz.ntmps94
  go_wp2_with fail
  go_region_held3 (fun w' => w'.cell? ⟨w.heap.size, 0, none⟩ = some (.int .i64 d1) ∧ w'.cell? ⟨w.heap.size, 1, none⟩ = some (.int .i64 d2) ∧ w'.cell? ⟨w.heap.size + 1, 0, none⟩ = some (.int .i64 e1) ∧ w'.cell? ⟨w.heap.size + 1, 1, none⟩ = some (.int .i64 e2)) (go_keep)
    (first | (go_at_call 123; refine (compare_any _ _ _).mono ?_; rintro e w' ⟨rfl, rfl⟩) | (go_at_call 122; refine (or_any _ _ (cmpV d1 e1) (cmpV d2 e2) _ ?_ ?_).mono ?_; go_simp; go_simp; rintro e w' ⟨rfl, rfl⟩))
  go_wp2
  go_ret
  exact ⟨rfl, rfl⟩
theorem three_below (w : World) (o1 o2 o3 : Obj) : Below w.heap.size w (((w.alloc o1).alloc o2).alloc o3).drew :=
  ((((Below.refl _ w).alloc (Nat.le_refl _) o1).alloc (by simp) o2).alloc (by simp; omega) o3).drew
theorem compareEdges_any (d1 d2 e1 e2 : Int) (w : World) :
    Calls Tryz.prog 94 #[.agg #[.int .i64 d1, .int .i64 d2], .agg #[.int .i64 e1, .int .i64 e2]] w fun e w' => e = .returned (.int .i64 (cmpE (d1, d2) (e1, e2))) ∧ Below w.heap.size w w' :=
  (compareEdges_at d1 d2 e1 e2 w).mono fun e w' ⟨h1, h2⟩ => ⟨h1, by rw [← h2]; exact three_below w _ _ _⟩

set_option maxHeartbeats 1000000 in
/-- areEdges -/
theorem areEdges_any {w : World} {a : Option Addr} {n c : Nat} {l : List Edg} (na ns : Nat) (_hna : na ≤ 9223372036854775807) (_hns : ns ≤ 9223372036854775807) (A : EdgeArg w a n c l) :
    Calls Tryz.prog 90 #[.slice a n c, .int .i64 na, .int .i64 ns] w fun e w' => e = .returned (.bool (edgesB na ns l)) ∧ Below w.heap.size w w' := by
  have HA := Lib.hid A
  have hbig : n ≤ 9223372036854775807 := by have := A.cap; have := A.big; omega
  clear A
  go_enter Tryz.func90, Tryz.ntmps90
  go_wp2
  go_loopw [7, 8, 11] (fun _ _ i wr => ∃ k : Nat, k ≤ n ∧ i = .int .i64 k ∧ Hid (∀ j, j < k → edgeB na ns l j = true) ∧ Below w.heap.size w wr) (fun _ _ i _ => n - (intOf i).toNat)
  case atStart => exact ⟨0, Nat.zero_le _, rfl, Lib.hid fun j hj => absurd hj (Nat.not_lt_zero _), Below.refl _ _⟩
  case round =>
    obtain ⟨k, hk, rfl, hgood, hb⟩ := hrel
    by_cases hlt : k < n
    · obtain ⟨b, off, rfl, c1, c2⟩ := (HA.out.cells.below hb) k (by have := HA.out.len; omega)
      obtain ⟨x, HX⟩ : ∃ x, Hid ((edAt l k).1 = x) := ⟨_, Lib.hid rfl⟩
      obtain ⟨y, HY⟩ : ∃ y, Hid ((edAt l k).2 = y) := ⟨_, Lib.hid rfl⟩
      rw [HX.out] at c1
      rw [HY.out] at c2
      by_cases hok : okE na ns (x, y) = true
      · have h4 := (okE_iff _ _ _).1 hok
        simp only at h4
        obtain ⟨o1, o2, o3, o4⟩ := h4
        have HO := Lib.hid hok
        clear hok
        by_cases h0 : 0 < k
        · obtain ⟨b', off', e, d1, d2⟩ := (HA.out.cells.below hb) (k - 1) (by have := HA.out.len; omega)
          cases e
          obtain ⟨px, HPX⟩ : ∃ x, Hid ((edAt l (k - 1)).1 = x) := ⟨_, Lib.hid rfl⟩
          obtain ⟨py, HPY⟩ : ∃ y, Hid ((edAt l (k - 1)).2 = y) := ⟨_, Lib.hid rfl⟩
          rw [HPX.out] at d1
          rw [HPY.out] at d2
          obtain ⟨j, rfl⟩ : ∃ j, k = j + 1 := ⟨k - 1, by omega⟩
          simp only [Nat.add_sub_cancel] at d1 d2 HPX HPY
          have hg : decide ((0 : Int) < (j + 1 : Nat)) = true := decide_eq_true (by omega)
          have hk1 : IntKind.i64.wrap (j : Int) = (j : Int) := IntWalk.i64_in _ (by omega)
          have hk2 : (0 : Int) ≤ (j : Int) := by omega
          have hk4 : (j : Int) < n := by omega
          go_wp2
          go_region_held3 (fun w' => w'.cell? ⟨b, off + j * 2, none⟩ = some (.int .i64 px) ∧ w'.cell? ⟨b, off + j * 2 + 1, none⟩ = some (.int .i64 py) ∧ w'.cell? ⟨wr.heap.size, 0, none⟩ = some (.int .i64 x) ∧ w'.cell? ⟨wr.heap.size, 1, none⟩ = some (.int .i64 y)) (simp (maxDischargeDepth := 12) [*, World.cell?_alloc_some])
            (first | (go_at_call 94; refine (compareEdges_at _ _ _ _ _).mono ?_; rintro e w' ⟨rfl, rfl⟩))
          cases hlt2 : ltE (px, py) (x, y)
          · have hc2 : (0 : Int) ≤ cmpE (px, py) (x, y) := by
              rcases Int.lt_or_le (cmpE (px, py) (x, y)) 0 with h | h
              · rw [(cmpE_lt _ _).1 h] at hlt2; cases hlt2
              · exact h
            have HB : Hid (edgesB na ns l = false) := Lib.hid (edgesB_bad (k := j + 1) (by have := HA.out.len; omega) (edgeB_back h0 (by
              have e1 : edAt l (j + 1) = (x, y) := by rw [← HX.out, ← HY.out]
              have e2 : edAt l (j + 1 - 1) = (px, py) := by rw [← HPX.out, ← HPY.out]; rfl
              rw [e1, e2]; exact hlt2)))
            clear hlt2
            go_wp2
            go_ret
            exact ⟨by rw [HB.out]; rfl, (hb.alloc hb.size _).trans ((three_below _ _ _ _).drew.mono (by have := hb.size; simp; omega))⟩
          · have hc2 : cmpE (px, py) (x, y) < 0 := (cmpE_lt _ _).2 hlt2
            have HG : Hid (∀ i, i < j + 1 + 1 → edgeB na ns l i = true) := Lib.hid fun i hi => by
              by_cases e : i = j + 1
              · have e1 : edAt l (j + 1) = (x, y) := by rw [← HX.out, ← HY.out]
                have e2 : edAt l (j + 1 - 1) = (px, py) := by rw [← HPX.out, ← HPY.out]; rfl
                rw [e]
                exact edgeB_next (by rw [e1]; exact HO.out) (by rw [e1, e2]; exact hlt2)
              · exact hgood.out i (by omega)
            clear hlt2
            go_wp2
            go_roundw
            case rel => exact ⟨j + 1 + 1, by omega, by go_num, HG, (hb.alloc hb.size _).trans ((three_below _ _ _ _).drew.mono (by have := hb.size; simp; omega))⟩
            case measure => simp [intOf]; omega
        · have hg : decide ((0 : Int) < k) = false := decide_eq_false (by omega)
          obtain rfl : k = 0 := by omega
          simp only [Nat.zero_mul, Nat.add_zero] at c1 c2
          have HG : Hid (∀ j, j < 0 + 1 → edgeB na ns l j = true) := Lib.hid fun j hj => by
            have e1 : edAt l 0 = (x, y) := by rw [← HX.out, ← HY.out]
            obtain rfl : j = 0 := by omega
            exact edgeB_zero (by rw [e1]; exact HO.out)
          go_wp2
          go_quiet (fail)
          go_wp2
          go_roundw
          case rel => exact ⟨0 + 1, by omega, by go_num, HG, below_drewN (hb.alloc hb.size _) _⟩
          case measure => simp [intOf]; omega
      · have HOK := Lib.hid hok
        clear hok
        have HB : Hid (edgesB na ns l = false) := Lib.hid (edgesB_bad (k := k) (by have := HA.out.len; omega) (edgeB_out (by
          rw [Bool.eq_false_iff]
          intro h
          have e : edAt l k = (x, y) := by rw [← HX.out, ← HY.out]
          rw [e] at h
          exact HOK.out h)))
        go_wp2
        all_goals first
          | (go_ret; exact ⟨by rw [HB.out]; rfl, hb.alloc hb.size _⟩)
          | (exfalso; have h := HOK.out; rw [okE_iff] at h; simp only at h; omega)
    · have HB : Hid (edgesB na ns l = true) := Lib.hid (edgesB_good fun j hj => hgood.out j (by have := HA.out.len; omega))
      go_wp2
      go_ret
      exact ⟨by rw [HB.out]; rfl, hb⟩
end Go.Proofs.YtgnbkepdbdgkdaaGreatDoor
