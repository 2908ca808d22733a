/- Texts joined: Parse. -/
import Derived.Test.YtgnbkepdbdgkdaaGreatDoorJq22
import Derived.RegionTactic
import Derived.ChangeAlike
/- act.parse and act.Parse. -/
namespace Go.Proofs.YtgnbkepdbdgkdaaGreatDoor
open Go.RowKit Go.Shelf Pl

theorem mk1 (c : UInt8) : (⟨#[c]⟩ : ByteArray).data.toList = [c] := rfl
theorem cutPrefix_any (s : ByteArray) (w : World) : Calls Tryz.prog 213 #[.string s, .string ⟨#[123]⟩] w fun e w' => e = .returned (.tuple #[.string (mk (Lib.trimPrefix s.data.toList [123])), .bool (Lib.hasPrefix s.data.toList [123])]) ∧ w = w' :=
  (Tryz.strings_CutPrefix s ⟨#[123]⟩ w).mono fun _ _ h => ⟨h.1, h.2.symm⟩
theorem cutSuffix_any (s : ByteArray) (w : World) (hs : s.size ≤ 9223372036854775807) : Calls Tryz.prog 214 #[.string s, .string ⟨#[125]⟩] w fun e w' => e = .returned (.tuple #[.string (mk (Lib.trimSuffix s.data.toList [125])), .bool (Lib.hasSuffix s.data.toList [125])]) ∧ w = w' :=
  (Tryz.strings_CutSuffix s ⟨#[125]⟩ w hs).mono fun _ _ h => ⟨h.1, h.2.symm⟩
theorem mk_size (l : List UInt8) : (mk l).size = l.length := by simp [mk, ByteArray.size]
theorem trimPrefix_le (l p : List UInt8) : (Lib.trimPrefix l p).length ≤ l.length := by
  unfold Lib.trimPrefix
  split
  · rw [List.length_drop]; omega
  · exact Nat.le_refl _
theorem trimSuffix_le (l p : List UInt8) : (Lib.trimSuffix l p).length ≤ l.length := by
  unfold Lib.trimSuffix
  split
  · rw [List.length_take]; omega
  · exact Nat.le_refl _

/-- the three boxes that parse lays first -/
structure Start (w W1 : World) (a : Option Addr) (n c : Nat) : Prop where
  bA : Boxed W1 w.heap.size 22 (.slice a n c)
  b4 : Boxed W1 (w.heap.size + 1) 3 (.int .i64 0)
  b5 : Boxed W1 (w.heap.size + 1 + 1) 157 .nilIface
  size : W1.heap.size = w.heap.size + 3
  below : Below w.heap.size w W1
theorem start_of (w : World) (a : Option Addr) (n c : Nat) : Start w (((w.alloc (.cells #[.slice a n c] 22)).alloc (.cells #[.int .i64 0] 3)).alloc (.cells #[.nilIface] 157)) a n c := by
  refine ⟨?_, ?_, ?_, by simp, (((Below.refl _ w).alloc (Nat.le_refl _) _).alloc (by simp) _).alloc (by simp; omega) _⟩
  · exact ((Boxed.new w _ _).alloc _).alloc _
  · have := Boxed.new (w.alloc (.cells #[.slice a n c] 22)) 3 (.int .i64 0)
    rw [World.size_alloc] at this
    exact this.alloc _
  · have := Boxed.new ((w.alloc (.cells #[.slice a n c] 22)).alloc (.cells #[.int .i64 0] 3)) 157 .nilIface
    rwa [World.size_alloc, World.size_alloc] at this
theorem setCell_far {w : World} {p q : Addr} {v u : Value} (h : w.cell? p = some v) (hne : p.block ≠ q.block) : (w.setCell q u).cell? p = some v :=
  (World.cell?_of_block (Below.heap_setCell w q u p.block hne)).trans h

theorem two_cells {W : World} {p q : Nat} {t t' : TypeId} {v v' : Value} (h : Boxed W p t v) (h' : Boxed W q t' v') (u u' : Value) (hne : p ≠ q) :
    ((W.setCell ⟨p, 0, none⟩ u).setCell ⟨q, 0, none⟩ u').cell? ⟨p, 0, none⟩ = some u ∧ ((W.setCell ⟨p, 0, none⟩ u).setCell ⟨q, 0, none⟩ u').cell? ⟨q, 0, none⟩ = some u' :=
  ⟨((h.set u).other hne u').cell, ((h'.other hne.symm u).set u').cell⟩

/-- what parse answers -/
def parseV (e2 : Addr) (ss : List ByteArray) (s : ByteArray) : Value := match parseO ss s.data.toList with
  | some y => .tuple #[.int .i64 y, .nilIface]
  | none => .tuple #[.int .i64 0, .iface 314 (.pointer (some e2))]
theorem parseV_none {e2 : Addr} {ss : List ByteArray} {s : ByteArray} (h : parseO ss s.data.toList = none) : parseV e2 ss s = .tuple #[.int .i64 0, .iface 314 (.pointer (some e2))] := by unfold parseV; rw [h]
theorem parseV_some {e2 : Addr} {ss : List ByteArray} {s : ByteArray} {y : Nat} (h : parseO ss s.data.toList = some y) : parseV e2 ss s = .tuple #[.int .i64 y, .nilIface] := by unfold parseV; rw [h]

set_option maxRecDepth 100000 in
set_option maxHeartbeats 1000000 in
theorem parse_bad {w : World} (a : Option Addr) (n c : Nat) {ss : List ByteArray} {e0 e1 e2 : Addr} (s : ByteArray) (hs : s.size ≤ 9223372036854775807) (E : Errs w e0 e1 e2)
    (h : (Lib.hasPrefix s.data.toList [123] && Lib.hasSuffix (Lib.trimPrefix s.data.toList [123]) [125]) = false) :
    Calls Tryz.prog 197 #[.slice a n c, .string s] w fun e w' => e = .returned (parseV e2 ss s) ∧ Below w.heap.size w w' := by
  obtain ⟨W1, hW1⟩ : ∃ W1, ((w.alloc (.cells #[.slice a n c] 22)).alloc (.cells #[.int .i64 0] 3)).alloc (.cells #[.nilIface] 157) = W1 := ⟨_, rfl⟩
  have HV : Hid (parseV e2 ss s = .tuple #[.int .i64 0, .iface 314 (.pointer (some e2))]) := Lib.hid (parseV_none (by unfold parseO; rw [h]; rfl))
  have HP := Lib.hid (cutPrefix_any s W1)
  have HS := Lib.hid (cutSuffix_any (mk (Lib.trimPrefix s.data.toList [123])) W1 (by rw [mk_size]; have := trimPrefix_le s.data.toList [123]; rw [Lib.size_eq] at hs; omega))
  rw [mk_data] at HS
  have st := start_of w a n c
  rw [hW1] at st
  obtain ⟨_, b4, b5, hsz, B1⟩ := st
  have g2 := (E.below B1).h2.cell
  have hlt := lt_of_cell E.h2.cell
  simp only at hlt
  have g2' := setCell_far (q := ⟨w.heap.size + 1, 0, none⟩) (u := .int .i64 0) g2 (by simp only; omega)
  have k4 := b4.cell
  have f4 := b4.frozen
  have k5 := b5.cell
  have f5 := b5.frozen
  have k5' := setCell_far (q := ⟨w.heap.size + 1, 0, none⟩) (u := .int .i64 0) k5 (by simp only; omega)
  have HB : Hid (Below w.heap.size w ((W1.setCell ⟨w.heap.size + 1, 0, none⟩ (.int .i64 0)).setCell ⟨w.heap.size + 1 + 1, 0, none⟩ (.iface 314 (.pointer (some e2))))) := Lib.hid ((B1.setCell (p := ⟨w.heap.size + 1, 0, none⟩) (by simp) _).setCell (p := ⟨w.heap.size + 1 + 1, 0, none⟩) (by simp; omega) _)
  have HR := Lib.hid (two_cells b4 b5 (.int .i64 0) (.iface 314 (.pointer (some e2))) (by omega))
  obtain ⟨U, hU⟩ : ∃ U : ByteArray, mk (Lib.trimPrefix s.data.toList [123]) = U := ⟨_, rfl⟩
  obtain ⟨V, hV⟩ : ∃ V : ByteArray, mk (Lib.trimSuffix (Lib.trimPrefix s.data.toList [123]) [125]) = V := ⟨_, rfl⟩
  rw [hU] at HP HS
  rw [hV] at HS
  cases hp : Lib.hasPrefix s.data.toList [123] <;> cases hq : Lib.hasSuffix (Lib.trimPrefix s.data.toList [123]) [125]
  case true.true => rw [hp, hq] at h; cases h
  all_goals
    rw [hp] at HP
    rw [hq] at HS
    clear hU hV hp hq h
    go_enter Tryz.func197, Tryz.ntmps197
    go_wp2_with fail
    refine HP.out.mono ?_
    rintro e w' ⟨rfl, rfl⟩
    go_wp2_with fail
    refine HS.out.mono ?_
    rintro e w' ⟨rfl, rfl⟩
    go_wp2_with fail
    go_region
    all_goals go_wp2
  all_goals
    refine bodyPost_ret (v := .tuple #[.int .i64 0, .iface 314 (.pointer (some e2))]) ?_ rfl ⟨by rw [HV.out], HB.out.drew⟩
    simp [results, Tryz.results197, go_sem, HR.out.1, HR.out.2]

theorem parse_inner_eq {ss : List ByteArray} {s : List UInt8} (hp : Lib.hasPrefix s [123] = true) (hq : Lib.hasSuffix (Lib.trimPrefix s [123]) [125] = true) : parseO ss s = innerO ss (Lib.trimSuffix (Lib.trimPrefix s [123]) [125]) := by
  unfold parseO; rw [hp, hq]; rfl

set_option maxRecDepth 100000 in
set_option maxHeartbeats 1000000 in
theorem parse_empty {w : World} (a : Option Addr) (n c : Nat) {ss : List ByteArray} (e2 : Addr) (s : ByteArray) (hs : s.size ≤ 9223372036854775807)
    (hp : Lib.hasPrefix s.data.toList [123] = true) (hq : Lib.hasSuffix (Lib.trimPrefix s.data.toList [123]) [125] = true) (hu : Lib.trimSuffix (Lib.trimPrefix s.data.toList [123]) [125] = []) :
    Calls Tryz.prog 197 #[.slice a n c, .string s] w fun e w' => e = .returned (parseV e2 ss s) ∧ Below w.heap.size w w' := by
  obtain ⟨W1, hW1⟩ : ∃ W1, ((w.alloc (.cells #[.slice a n c] 22)).alloc (.cells #[.int .i64 0] 3)).alloc (.cells #[.nilIface] 157) = W1 := ⟨_, rfl⟩
  have HV : Hid (parseV e2 ss s = .tuple #[.int .i64 0, .nilIface]) := Lib.hid (by
    have := parseV_some (e2 := e2) (ss := ss) (s := s) (y := 0) (by rw [parse_inner_eq hp hq, hu]; rfl)
    exact this)
  have HP := Lib.hid (cutPrefix_any s W1)
  have HS := Lib.hid (cutSuffix_any (mk (Lib.trimPrefix s.data.toList [123])) W1 (by rw [mk_size]; have := trimPrefix_le s.data.toList [123]; rw [Lib.size_eq] at hs; omega))
  rw [mk_data] at HS
  have st := start_of w a n c
  rw [hW1] at st
  obtain ⟨_, b4, b5, hsz, B1⟩ := st
  have k4 := b4.cell
  have f4 := b4.frozen
  have k5 := b5.cell
  have f5 := b5.frozen
  have k5' := setCell_far (q := ⟨w.heap.size + 1, 0, none⟩) (u := .int .i64 0) k5 (by simp only; omega)
  have HB : Hid (Below w.heap.size w ((W1.setCell ⟨w.heap.size + 1, 0, none⟩ (.int .i64 0)).setCell ⟨w.heap.size + 1 + 1, 0, none⟩ .nilIface)) := Lib.hid ((B1.setCell (p := ⟨w.heap.size + 1, 0, none⟩) (by simp) _).setCell (p := ⟨w.heap.size + 1 + 1, 0, none⟩) (by simp; omega) _)
  have HR := Lib.hid (two_cells b4 b5 (.int .i64 0) .nilIface (by omega))
  obtain ⟨U, hU⟩ : ∃ U : ByteArray, mk (Lib.trimPrefix s.data.toList [123]) = U := ⟨_, rfl⟩
  rw [hu, show mk [] = (⟨#[]⟩ : ByteArray) from rfl, hq] at HS
  rw [hp] at HP
  rw [hU] at HP HS
  clear hU hp hq hu
  go_enter Tryz.func197, Tryz.ntmps197
  go_wp2_with fail
  refine HP.out.mono ?_
  rintro e w' ⟨rfl, rfl⟩
  go_wp2_with fail
  refine HS.out.mono ?_
  rintro e w' ⟨rfl, rfl⟩
  go_wp2
  refine bodyPost_ret (v := .tuple #[.int .i64 0, .nilIface]) ?_ rfl ⟨by rw [HV.out], HB.out⟩
  simp [results, Tryz.results197, go_sem, HR.out.1, HR.out.2]

theorem boxed_keep {X Y : World} {row : Option Nat} {B : Nat} {t : TypeId} {v : Value} (h : Boxed X B t v) (hg : X.grownBy Y row) (hr : ∀ r, row = some r → ∃ o : Obj, X.heap[r]? = some o ∧ o.isCells = false) : Boxed Y B t v :=
  boxed_own B t (fun _ : Unit => v) () X Y row h hg hr
/-- five new boxes -/
theorem five_of (W : World) (v1 v2 v3 v4 v5 : Value) (t1 t2 t3 t4 t5 : TypeId) :
    let W0 := ((((W.alloc (.cells #[v1] t1)).alloc (.cells #[v2] t2)).alloc (.cells #[v3] t3)).alloc (.cells #[v4] t4)).alloc (.cells #[v5] t5)
    Boxed W0 W.heap.size t1 v1 ∧ Boxed W0 (W.heap.size + 1) t2 v2 ∧ Boxed W0 (W.heap.size + 1 + 1) t3 v3 ∧ Boxed W0 (W.heap.size + 1 + 1 + 1) t4 v4 ∧ Boxed W0 (W.heap.size + 1 + 1 + 1 + 1) t5 v5 ∧ W0.heap.size = W.heap.size + 5 ∧
      (∀ B t v, Boxed W B t v → Boxed W0 B t v) ∧ Below W.heap.size W W0 := by
  have g : ∀ (X : World) (k : Nat) (v : Value) (t : TypeId), X.heap.size = k → Boxed (X.alloc (.cells #[v] t)) k t v := fun X k v t h => by rw [← h]; exact Boxed.new X t v
  refine ⟨((((Boxed.new W _ _).alloc _).alloc _).alloc _).alloc _, (((g _ _ _ _ (by simp)).alloc _).alloc _).alloc _, ((g _ _ _ _ (by simp)).alloc _).alloc _, (g _ _ _ _ (by simp)).alloc _, g _ _ _ _ (by simp), by simp, fun B t v h => ((((h.alloc _).alloc _).alloc _).alloc _).alloc _, ?_⟩
  exact (((((Below.refl _ W).alloc (Nat.le_refl _) _).alloc (by simp) _).alloc (by simp; omega) _).alloc (by simp; omega) _).alloc (by simp; omega) _

/-- between two rounds of parse's loop -/
def PI (ss : List ByteArray) (w : World) (a : Option Addr) (n c : Nat) (r : ByteArray) (pre : List ByteArray) (W : World) : Prop :=
  (∃ nx st : Nat, foldP ss (some (0, 0)) pre = some (nx, st) ∧ nx ≤ n ∧ st < 256 ∧ Boxed W (w.heap.size + 3) 3 (.int .i64 st) ∧ Boxed W (w.heap.size + 3 + 1) 3 (.int .i64 nx)) ∧
  Boxed W w.heap.size 22 (.slice a n c) ∧ Boxed W (w.heap.size + 1) 3 (.int .i64 0) ∧ Boxed W (w.heap.size + 1 + 1) 157 .nilIface ∧
  Boxed W (w.heap.size + 3 + 1 + 1) 9 (.string r) ∧ Boxed W (w.heap.size + 3 + 1 + 1 + 1) 9 (.string ⟨#[44]⟩) ∧ Boxed W (w.heap.size + 3 + 1 + 1 + 1 + 1) 3 (.int .i64 0) ∧ Below w.heap.size w W
/-- where a name was not found -/
def PX (ss : List ByteArray) (w : World) (e2 : Addr) (V : ByteArray) (k : Code) (_ : List ByteArray) (W : World) : Prop :=
  k = .ret ∧ foldP ss (some (0, 0)) (partsB V) = none ∧ Boxed W (w.heap.size + 1) 3 (.int .i64 0) ∧ Boxed W (w.heap.size + 1 + 1) 157 (.iface 314 (.pointer (some e2))) ∧ Below w.heap.size w W
theorem PI_own {ss : List ByteArray} {w : World} {a : Option Addr} {n c : Nat} {r : ByteArray} {B : Nat} (hB : w.heap.size ≤ B) : OwnFrom B (PI ss w a n c r) := by
  rintro s X Y row ⟨⟨nx, st, hf, hn, hs, b9, b10⟩, bA, b4, b5, c1, c0, c2, hb⟩ hg hr
  have k : ∀ {p : Nat} {t : TypeId} {v : Value}, Boxed X p t v → Boxed Y p t v := fun h => boxed_keep h hg (fun r e => (hr r e).2)
  exact ⟨⟨nx, st, hf, hn, hs, k b9, k b10⟩, k bA, k b4, k b5, k c1, k c0, k c2, hb.grown hg hb.size (fun j e => Nat.le_trans hB (hr j e).1)⟩
theorem PX_own {ss : List ByteArray} {w : World} {e2 : Addr} {V : ByteArray} {j : Code} {B : Nat} (hB : w.heap.size ≤ B) : OwnFrom B (PX ss w e2 V j) := by
  rintro s X Y row ⟨hj, hf, b4, b5, hb⟩ hg hr
  have k : ∀ {p : Nat} {t : TypeId} {v : Value}, Boxed X p t v → Boxed Y p t v := fun h => boxed_keep h hg (fun r e => (hr r e).2)
  exact ⟨hj, hf, k b4, k b5, hb.grown hg hb.size (fun j e => Nat.le_trans hB (hr j e).1)⟩
theorem PI_step {ss : List ByteArray} {w : World} {a : Option Addr} {n c : Nat} {r r' : ByteArray} {pre : List ByteArray} {V : World} (h : PI ss w a n c r pre V) : PI ss w a n c r' pre (V.setCell ⟨w.heap.size + 3 + 1 + 1, 0, none⟩ (.string r')) := by
  obtain ⟨⟨nx, st, hf, hn, hs, b9, b10⟩, bA, b4, b5, c1, c0, c2, hb⟩ := h
  exact ⟨⟨nx, st, hf, hn, hs, b9.other (by omega) _, b10.other (by omega) _⟩, bA.other (by omega) _, b4.other (by omega) _, b5.other (by omega) _, c1.set _, c0.other (by omega) _, c2.other (by omega) _, hb.setCell (p := ⟨w.heap.size + 3 + 1 + 1, 0, none⟩) (by simp only; omega) _⟩

attribute [local go_sem] Oper.semAt_some

set_option maxRecDepth 100000 in
set_option maxHeartbeats 2000000 in
theorem parse_names {w : World} {a : Option Addr} {n c : Nat} {ss : List ByteArray} {e0 e1 e2 : Addr} (s : ByteArray) (hs : s.size ≤ 9223372036854775807) (E : Errs w e0 e1 e2) (A : StrArg w a n c ss) (h8 : n ≤ 8)
    (hp : Lib.hasPrefix s.data.toList [123] = true) (hq : Lib.hasSuffix (Lib.trimPrefix s.data.toList [123]) [125] = true) (hu : Lib.trimSuffix (Lib.trimPrefix s.data.toList [123]) [125] ≠ []) :
    Calls Tryz.prog 197 #[.slice a n c, .string s] w fun e w' => e = .returned (parseV e2 ss s) ∧ Below w.heap.size w w' := by
  refine (callsIn_wide (n := 3)).1 ?_
  obtain ⟨W1, hW1⟩ : ∃ W1, ((w.alloc (.cells #[.slice a n c] 22)).alloc (.cells #[.int .i64 0] 3)).alloc (.cells #[.nilIface] 157) = W1 := ⟨_, rfl⟩
  have HP := Lib.hid (cutPrefix_any s W1)
  have HS := Lib.hid (cutSuffix_any (mk (Lib.trimPrefix s.data.toList [123])) W1 (by rw [mk_size]; have := trimPrefix_le s.data.toList [123]; rw [Lib.size_eq] at hs; omega))
  rw [mk_data, hq] at HS
  rw [hp] at HP
  have st := start_of w a n c
  rw [hW1] at st
  obtain ⟨bA, b4, b5, hsz, B1⟩ := st
  obtain ⟨U, hU⟩ : ∃ U : ByteArray, mk (Lib.trimPrefix s.data.toList [123]) = U := ⟨_, rfl⟩
  obtain ⟨V, hV⟩ : ∃ V : ByteArray, mk (Lib.trimSuffix (Lib.trimPrefix s.data.toList [123]) [125]) = V := ⟨_, rfl⟩
  rw [hU] at HP HS
  rw [hV] at HS
  have hVd : V.data.toList = Lib.trimSuffix (Lib.trimPrefix s.data.toList [123]) [125] := by rw [← hV, mk_data]
  have HV : Hid (parseV e2 ss s = match foldP ss (some (0, 0)) (partsB V) with | some x => .tuple #[.int .i64 x.2, .nilIface] | none => .tuple #[.int .i64 0, .iface 314 (.pointer (some e2))]) := Lib.hid (by
    have e : parseO ss s.data.toList = (foldP ss (some (0, 0)) (partsB V)).map (·.2) := by
      rw [parse_inner_eq hp hq]
      unfold innerO partsB
      rw [if_neg hu, hVd]
    unfold parseV
    rw [e]
    cases foldP ss (some (0, 0)) (partsB V) <;> rfl)
  have hVs : V.size ≤ 9223372036854775807 := by
    rw [← hV, mk_size]
    have h1 := trimSuffix_le (Lib.trimPrefix s.data.toList [123]) [125]
    have h2 := trimPrefix_le s.data.toList [123]
    rw [Lib.size_eq] at hs
    omega
  have hne : V.toList.isEmpty = false := by rw [ByteArray.toList_eq, hVd]; simpa using hu
  clear hU hV hVd hp hq hu
  refine callsIn_of_wp_marks Tryz.func197 rfl trivial ?_ rfl
  simp only [Tryz.ntmps197, List.size_toArray, List.length_cons, List.length_nil, Nat.reduceAdd, Nat.reduceSub, Array.replicate_succ, Array.replicate_zero, List.push_toArray, List.append_toArray, List.nil_append, List.cons_append]
  gi_wp2_with (first | (refine ⟨trivial, ?_⟩; gi_at_call 213; refine (callsIn_wide.2 HP.out).mono ?_; rintro e w' ⟨rfl, rfl⟩) | (refine ⟨trivial, ?_⟩; gi_at_call 214; refine (callsIn_wide.2 HS.out).mono ?_; rintro e w' ⟨rfl, rfl⟩) | (refine ⟨trivial, ?_⟩; gi_at_call 215; refine (callsIn_wide.2 (SplitSeq_any _ _)).mono ?_; rintro e w' ⟨rfl, rfl⟩))
  obtain ⟨W0, hW0⟩ : ∃ W0, ((((W1.alloc (.cells #[.int .i64 0] 3)).alloc (.cells #[.int .i64 0] 3)).alloc (.cells #[.string V] 9)).alloc (.cells #[.string ⟨#[44]⟩] 9)).alloc (.cells #[.int .i64 0] 3) = W0 := ⟨_, rfl⟩
  have bs := five_of W1 (.int .i64 0) (.int .i64 0) (.string V) (.string ⟨#[44]⟩) (.int .i64 0) 3 3 9 9 3
  rw [hW0, hsz] at bs
  obtain ⟨b9, b10, c1, c0, c2, hs0, hold, hB0⟩ := bs
  rw [hW0]
  have P0 : PI ss w a n c V [] W0 := ⟨⟨0, 0, rfl, Nat.zero_le _, by omega, b9, b10⟩, hold _ _ _ bA, hold _ _ _ b4, hold _ _ _ b5, c1, c0, c2, B1.trans (hB0.mono (by omega))⟩
  have hw0 : W0.heap.size = w.heap.size + 8 := by omega
  clear hW0 hold c1 c0 c2 b9 b10 bA b4 b5
  refine range_lawG (gf := 226) (lb := #[.pointer (some ⟨w.heap.size + 3 + 1 + 1 + 1, 0, none⟩), .pointer (some ⟨w.heap.size + 3 + 1 + 1, 0, none⟩), .pointer (some ⟨w.heap.size + 3 + 1 + 1 + 1 + 1, 0, none⟩)]) rfl (enters_of Tryz.func226 (by kernel_rfl) rfl) (fun _ => rfl)
    (PI ss w a n c) (PX ss w e2 V) (fun _ => PI_own (by omega)) (fun _ => PX_own (by omega)) V P0
    (fun x => { tmps := #[.slice a n c, .string s, .pointer (some ⟨w.heap.size, 0, none⟩), undef, .pointer (some ⟨w.heap.size + 1, 0, none⟩), .pointer (some ⟨w.heap.size + 1 + 1, 0, none⟩), .string V, .bool true, .bool true, .pointer (some ⟨w.heap.size + 3, 0, none⟩), .pointer (some ⟨w.heap.size + 3 + 1, 0, none⟩), .string x, undef,
      .tuple #[.string U, .bool true], .string s, .tuple #[.string U, .bool true], .string U, .bool true, .tuple #[.string V, .bool true], .string U, .tuple #[.string V, .bool true], .string V, .bool true, .bool true, .bool false, .bool false, .bool true, .bool false, .bool false, undef, .string V, .bool false, .string V,
      .func (.func 226) #[] #[.pointer (some ⟨w.heap.size + 3 + 1 + 1 + 1, 0, none⟩), .pointer (some ⟨w.heap.size + 3 + 1 + 1, 0, none⟩), .pointer (some ⟨w.heap.size + 3 + 1 + 1 + 1 + 1, 0, none⟩)], .string x, undef, undef, undef, undef, undef, undef, undef, undef, undef, undef, undef, undef, undef, undef, undef, undef, undef, undef, undef], defers := [] })
    (split_iter _ _ _ _ V hVs _ _ (fun _ _ _ h => h.2.2.2.2.2.1.cell) (fun _ _ _ h => h.2.2.2.2.1.cell) (fun _ _ _ h => h.2.2.2.2.1.frozen) (fun _ _ _ h => h.2.2.2.2.2.2.1.cell) (fun _ _ _ _ h => PI_step h)) ?assign ?body ?done ?stop
  case assign =>
    intro l x W K hK
    gi_wp2
    exact hK
  case body =>
    rintro r l pre x W ⟨⟨nx, st, hf, hnx, hst, b9, b10⟩, bA, b4, b5, c1, c0, c2, hB⟩ ho
    obtain ⟨a', hsl, hin⟩ := slice_from a n c nx ss W A.len hnx A.cap (A.cells.below hB)
    have HX := Lib.hid (index_any a' (n - nx) (c - nx) (ss.drop nx) x W (by rw [List.length_drop, A.len]) (by have := A.big; omega) hin)
    have k9 := b9.cell
    have f9 := b9.frozen
    have k10 := b10.cell
    have f10 := b10.frozen
    have kA := bA.cell
    have hmix : Tryz.prog.follows .mixedOrders = true := by kernel_rfl
    by_cases hneg : Lib.idxOfS (ss.drop nx) x < 0
    · have HF : Hid (foldP ss (some (0, 0)) (partsB V) = none) := Lib.hid (by
        obtain ⟨rest, hr⟩ := ho
        have h1 : foldP ss (some (0, 0)) (pre ++ [x]) = none := by rw [foldP_snoc, hf, stepP_bad hneg]
        rw [← hr]
        unfold foldP at h1 ⊢
        rw [List.foldl_append, h1]
        exact foldP_none ss rest)
      obtain ⟨i, hi⟩ : ∃ i, Lib.idxOfS (ss.drop nx) x = i := ⟨_, rfl⟩
      rw [hi] at HX hneg
      clear hi hf
      gi_wp2_with (refine ⟨trivial, ?_⟩; gi_at_call 154; refine CallsIn.inRound l ((callsIn_wide.2 HX.out).mono ?_); rintro e w' ⟨rfl, rfl⟩)
      have g2 := (E.below hB).h2.cell
      have hlt := lt_of_cell E.h2.cell
      simp only at hlt
      have g2' := setCell_far (q := ⟨w.heap.size + 1, 0, none⟩) (u := .int .i64 0) g2 (by simp only; omega)
      have k4 := b4.cell
      have f4 := b4.frozen
      have k5 := b5.cell
      have f5 := b5.frozen
      have k5' := setCell_far (q := ⟨w.heap.size + 1, 0, none⟩) (u := .int .i64 0) k5 (by simp only; omega)
      have HQ : Hid (Stays W0.heap.size W ((W.setCell ⟨w.heap.size + 1, 0, none⟩ (.int .i64 0)).setCell ⟨w.heap.size + 1 + 1, 0, none⟩ (.iface 314 (.pointer (some e2)))).drew ∧ PX ss w e2 V .ret (pre ++ [x]) ((W.setCell ⟨w.heap.size + 1, 0, none⟩ (.int .i64 0)).setCell ⟨w.heap.size + 1 + 1, 0, none⟩ (.iface 314 (.pointer (some e2)))).drew) := Lib.hid
        ⟨((Stays.setCell _ W _ _).trans (Stays.setCell _ _ _ _)).trans (Stays.drew _ _), rfl, HF.out, (b4.set _).other (by omega) _, (b5.other (by omega) _).set _, ((hB.setCell (p := ⟨w.heap.size + 1, 0, none⟩) (by simp) _).setCell (p := ⟨w.heap.size + 1 + 1, 0, none⟩) (by simp only; omega) _).drew⟩
      refine wpIn_region_any (by assumption) ?_
      try (change wpAnyIn _ _ _ _ _ _ _ _ _ (World.drew _))
      refine wpAnyIn_ready (rs := [0, 1]) (by kernel_rfl) (by simp) ?_
      refine AllReadyIn.cons rfl (fun K hK => ?_) ?_
      · go_simp
        refine hK _ _ ?_
        clear hK K
        refine wpAnyIn_ready (rs := [1]) (by kernel_rfl) (by simp) ?_
        refine AllReadyIn.cons rfl (fun K hK => ?_) ?_
        · go_simp
          refine hK _ _ ?_
          clear hK K
          refine wpAnyIn_ready (rs := [2]) (by kernel_rfl) (by simp) ?_
          refine AllReadyIn.cons rfl (fun K hK => ?_) ?_
          · go_simp
            refine hK _ _ ?_
            clear hK K
            refine wpAnyIn_done (by kernel_rfl) ?_ _
            gi_wp2
            exact HQ.out
          exact AllReadyIn.nil
        exact AllReadyIn.nil
      refine AllReadyIn.cons rfl (fun K hK => ?_) ?_
      · go_simp
        refine hK _ _ ?_
        clear hK K
        refine wpAnyIn_ready (rs := [0]) (by kernel_rfl) (by simp) ?_
        refine AllReadyIn.cons rfl (fun K hK => ?_) ?_
        · go_simp
          refine hK _ _ ?_
          clear hK K
          refine wpAnyIn_ready (rs := [2]) (by kernel_rfl) (by simp) ?_
          refine AllReadyIn.cons rfl (fun K hK => ?_) ?_
          · go_simp
            refine hK _ _ ?_
            clear hK K
            refine wpAnyIn_done (by kernel_rfl) ?_ _
            gi_wp2
            exact HQ.out
          exact AllReadyIn.nil
        exact AllReadyIn.nil
      exact AllReadyIn.nil
    · obtain ⟨k, hk⟩ := Int.eq_ofNat_of_zero_le (show 0 ≤ Lib.idxOfS (ss.drop nx) x by omega)
      obtain ⟨hk1, _, _⟩ := idx_at _ _ _ hk
      rw [List.length_drop, ← A.len] at hk1
      have HF : Hid (foldP ss (some (0, 0)) (pre ++ [x]) = some (nx + k + 1, st ||| 2 ^ (nx + k))) := Lib.hid (by rw [foldP_snoc, hf, stepP_good hk])
      rw [hk] at HX
      obtain ⟨m, hm⟩ : ∃ m, m = nx + k := ⟨_, rfl⟩
      have hm8 : m < 8 := by omega
      obtain ⟨q, HQ⟩ : ∃ q : Nat, Hid (q = 2 ^ m) := ⟨_, Lib.hid rfl⟩
      obtain ⟨R, HRR⟩ : ∃ R : Nat, Hid (R = st ||| q) := ⟨_, Lib.hid rfl⟩
      have HR8 : Hid (R < 256) := Lib.hid (by rw [HRR.out, HQ.out]; exact Nat.or_lt_two_pow (n := 8) hst (Nat.pow_lt_pow_right (by decide) hm8))
      rw [← hm, ← HQ.out, ← HRR.out] at HF
      have HG : Hid (∀ u : Int, u = nx + k + 1 → Stays W0.heap.size W ((W.setCell ⟨w.heap.size + 3, 0, none⟩ (.int .i64 R)).setCell ⟨w.heap.size + 3 + 1, 0, none⟩ (.int .i64 u)).drew ∧ PI ss w a n c r (pre ++ [x]) ((W.setCell ⟨w.heap.size + 3, 0, none⟩ (.int .i64 R)).setCell ⟨w.heap.size + 3 + 1, 0, none⟩ (.int .i64 u)).drew) := Lib.hid fun u hu => by
        have e : u = ((m + 1 : Nat) : Int) := by omega
        rw [e]
        exact ⟨((Stays.setCell _ W _ _).trans (Stays.setCell _ _ _ _)).trans (Stays.drew _ _), ⟨m + 1, R, HF.out, by omega, HR8.out, (b9.set _).other (by omega) _, (b10.other (by omega) _).set _⟩, (bA.other (by omega) _).other (by omega) _, (b4.other (by omega) _).other (by omega) _, (b5.other (by omega) _).other (by omega) _,
          (c1.other (by omega) _).other (by omega) _, (c0.other (by omega) _).other (by omega) _, (c2.other (by omega) _).other (by omega) _, ((hB.setCell (p := ⟨w.heap.size + 3, 0, none⟩) (by simp) _).setCell (p := ⟨w.heap.size + 3 + 1, 0, none⟩) (by simp only; omega) _).drew⟩
      have k10' := setCell_far (q := ⟨w.heap.size + 3, 0, none⟩) (u := .int .i64 R) k10 (by simp only; omega)
      have hin8 : (nx : Int) + k + 1 ≤ 9 := by omega
      have HO : Hid (bits .or .i64 (st : Int) (wrap64 (2 ^ m)) = (R : Int)) := Lib.hid (by
        have h2 := pow_le m (by omega)
        have h3 : (q : Int) = (2 : Int) ^ m := by rw [HQ.out]; norm_cast
        have h4 : q < 256 := by rw [HQ.out]; exact Nat.pow_lt_pow_right (n := 8) (by decide) hm8
        rw [IntWalk.wrap64_in _ ⟨by omega, by omega⟩, ← h3, HRR.out]
        exact i64_or_nat st q (by omega) (by omega))
      have hw1 : IntKind.i64.wrap ((nx : Int) + k) = (m : Int) := by
        have h1 : (nx : Int) + k = (m : Int) := by omega
        rw [h1]
        exact wraps_i64 _ (by omega) (by omega)
      have HM := Lib.hid hm
      clear hk hneg hf hm
      gi_wp2_with (refine ⟨trivial, ?_⟩; gi_at_call 154; refine CallsIn.inRound l ((callsIn_wide.2 HX.out).mono ?_); rintro e w' ⟨rfl, rfl⟩)
      refine wpIn_region_any (by assumption) ?_
      try (change wpAnyIn _ _ _ _ _ _ _ _ _ (World.drew _))
      refine wpAnyIn_ready (rs := [0, 1, 2]) (by kernel_rfl) (by simp) ?_
      refine AllReadyIn.cons rfl (fun K hK => ?_) ?_
      · go_simp
        refine hK _ _ ?_
        clear hK K
        refine wpAnyIn_ready (rs := [1, 2]) (by kernel_rfl) (by simp) ?_
        refine AllReadyIn.cons rfl (fun K hK => ?_) ?_
        · go_simp
          refine hK _ _ ?_
          clear hK K
          refine wpAnyIn_ready (rs := [2]) (by kernel_rfl) (by simp) ?_
          refine AllReadyIn.cons rfl (fun K hK => ?_) ?_
          · go_simp
            refine hK _ _ ?_
            clear hK K
            refine wpAnyIn_ready (rs := [3]) (by kernel_rfl) (by simp) ?_
            refine AllReadyIn.cons rfl (fun K hK => ?_) ?_
            · go_simp
              refine hK _ _ ?_
              clear hK K
              refine wpAnyIn_ready (rs := [4]) (by kernel_rfl) (by simp) ?_
              refine AllReadyIn.cons rfl (fun K hK => ?_) ?_
              · go_simp
                refine hK _ _ ?_
                clear hK K
                refine wpAnyIn_ready (rs := [5]) (by kernel_rfl) (by simp) ?_
                refine AllReadyIn.cons rfl (fun K hK => ?_) ?_
                · go_simp
                  refine hK _ _ ?_
                  clear hK K
                  refine wpAnyIn_ready (rs := [6]) (by kernel_rfl) (by simp) ?_
                  refine AllReadyIn.cons rfl (fun K hK => ?_) ?_
                  · go_simp
                    refine hK _ _ ?_
                    clear hK K
                    refine wpAnyIn_done (by kernel_rfl) ?_ _
                    clear hw1
                    gi_wp2
                    rw [HO.out]
                    exact HG.out _ (by omega)
                  exact AllReadyIn.nil
                exact AllReadyIn.nil
              exact AllReadyIn.nil
            exact AllReadyIn.nil
          exact AllReadyIn.nil
        refine AllReadyIn.cons rfl (fun K hK => ?_) ?_
        · go_simp
          refine hK _ _ ?_
          clear hK K
          refine wpAnyIn_ready (rs := [1]) (by kernel_rfl) (by simp) ?_
          refine AllReadyIn.cons rfl (fun K hK => ?_) ?_
          · go_simp
            refine hK _ _ ?_
            clear hK K
            refine wpAnyIn_ready (rs := [3]) (by kernel_rfl) (by simp) ?_
            refine AllReadyIn.cons rfl (fun K hK => ?_) ?_
            · go_simp
              refine hK _ _ ?_
              clear hK K
              refine wpAnyIn_ready (rs := [4]) (by kernel_rfl) (by simp) ?_
              refine AllReadyIn.cons rfl (fun K hK => ?_) ?_
              · go_simp
                refine hK _ _ ?_
                clear hK K
                refine wpAnyIn_ready (rs := [5]) (by kernel_rfl) (by simp) ?_
                refine AllReadyIn.cons rfl (fun K hK => ?_) ?_
                · go_simp
                  refine hK _ _ ?_
                  clear hK K
                  refine wpAnyIn_ready (rs := [6]) (by kernel_rfl) (by simp) ?_
                  refine AllReadyIn.cons rfl (fun K hK => ?_) ?_
                  · go_simp
                    refine hK _ _ ?_
                    clear hK K
                    refine wpAnyIn_done (by kernel_rfl) ?_ _
                    clear hw1
                    gi_wp2
                    rw [HO.out]
                    exact HG.out _ (by omega)
                  exact AllReadyIn.nil
                exact AllReadyIn.nil
              exact AllReadyIn.nil
            exact AllReadyIn.nil
          exact AllReadyIn.nil
        exact AllReadyIn.nil
      refine AllReadyIn.cons rfl (fun K hK => ?_) ?_
      · go_simp
        refine hK _ _ ?_
        clear hK K
        refine wpAnyIn_ready (rs := [0, 2]) (by kernel_rfl) (by simp) ?_
        refine AllReadyIn.cons rfl (fun K hK => ?_) ?_
        · go_simp
          refine hK _ _ ?_
          clear hK K
          refine wpAnyIn_ready (rs := [2]) (by kernel_rfl) (by simp) ?_
          refine AllReadyIn.cons rfl (fun K hK => ?_) ?_
          · go_simp
            refine hK _ _ ?_
            clear hK K
            refine wpAnyIn_ready (rs := [3]) (by kernel_rfl) (by simp) ?_
            refine AllReadyIn.cons rfl (fun K hK => ?_) ?_
            · go_simp
              refine hK _ _ ?_
              clear hK K
              refine wpAnyIn_ready (rs := [4]) (by kernel_rfl) (by simp) ?_
              refine AllReadyIn.cons rfl (fun K hK => ?_) ?_
              · go_simp
                refine hK _ _ ?_
                clear hK K
                refine wpAnyIn_ready (rs := [5]) (by kernel_rfl) (by simp) ?_
                refine AllReadyIn.cons rfl (fun K hK => ?_) ?_
                · go_simp
                  refine hK _ _ ?_
                  clear hK K
                  refine wpAnyIn_ready (rs := [6]) (by kernel_rfl) (by simp) ?_
                  refine AllReadyIn.cons rfl (fun K hK => ?_) ?_
                  · go_simp
                    refine hK _ _ ?_
                    clear hK K
                    refine wpAnyIn_done (by kernel_rfl) ?_ _
                    clear hw1
                    gi_wp2
                    rw [HO.out]
                    exact HG.out _ (by omega)
                  exact AllReadyIn.nil
                exact AllReadyIn.nil
              exact AllReadyIn.nil
            exact AllReadyIn.nil
          exact AllReadyIn.nil
        refine AllReadyIn.cons rfl (fun K hK => ?_) ?_
        · go_simp
          refine hK _ _ ?_
          clear hK K
          refine wpAnyIn_ready (rs := [0, 3]) (by kernel_rfl) (by simp) ?_
          refine AllReadyIn.cons rfl (fun K hK => ?_) ?_
          · go_simp
            refine hK _ _ ?_
            clear hK K
            refine wpAnyIn_ready (rs := [3]) (by kernel_rfl) (by simp) ?_
            refine AllReadyIn.cons rfl (fun K hK => ?_) ?_
            · go_simp
              refine hK _ _ ?_
              clear hK K
              refine wpAnyIn_ready (rs := [4]) (by kernel_rfl) (by simp) ?_
              refine AllReadyIn.cons rfl (fun K hK => ?_) ?_
              · go_simp
                refine hK _ _ ?_
                clear hK K
                refine wpAnyIn_ready (rs := [5]) (by kernel_rfl) (by simp) ?_
                refine AllReadyIn.cons rfl (fun K hK => ?_) ?_
                · go_simp
                  refine hK _ _ ?_
                  clear hK K
                  refine wpAnyIn_ready (rs := [6]) (by kernel_rfl) (by simp) ?_
                  refine AllReadyIn.cons rfl (fun K hK => ?_) ?_
                  · go_simp
                    refine hK _ _ ?_
                    clear hK K
                    refine wpAnyIn_done (by kernel_rfl) ?_ _
                    clear hw1
                    gi_wp2
                    rw [HO.out]
                    exact HG.out _ (by omega)
                  exact AllReadyIn.nil
                exact AllReadyIn.nil
              exact AllReadyIn.nil
            exact AllReadyIn.nil
          refine AllReadyIn.cons rfl (fun K hK => ?_) ?_
          · go_simp
            refine hK _ _ ?_
            clear hK K
            refine wpAnyIn_ready (rs := [0, 4]) (by kernel_rfl) (by simp) ?_
            refine AllReadyIn.cons rfl (fun K hK => ?_) ?_
            · go_simp
              refine hK _ _ ?_
              clear hK K
              refine wpAnyIn_ready (rs := [4]) (by kernel_rfl) (by simp) ?_
              refine AllReadyIn.cons rfl (fun K hK => ?_) ?_
              · go_simp
                refine hK _ _ ?_
                clear hK K
                refine wpAnyIn_ready (rs := [5]) (by kernel_rfl) (by simp) ?_
                refine AllReadyIn.cons rfl (fun K hK => ?_) ?_
                · go_simp
                  refine hK _ _ ?_
                  clear hK K
                  refine wpAnyIn_ready (rs := [6]) (by kernel_rfl) (by simp) ?_
                  refine AllReadyIn.cons rfl (fun K hK => ?_) ?_
                  · go_simp
                    refine hK _ _ ?_
                    clear hK K
                    refine wpAnyIn_done (by kernel_rfl) ?_ _
                    clear hw1
                    gi_wp2
                    rw [HO.out]
                    exact HG.out _ (by omega)
                  exact AllReadyIn.nil
                exact AllReadyIn.nil
              exact AllReadyIn.nil
            refine AllReadyIn.cons rfl (fun K hK => ?_) ?_
            · go_simp
              refine hK _ _ ?_
              clear hK K
              refine wpAnyIn_ready (rs := [0]) (by kernel_rfl) (by simp) ?_
              refine AllReadyIn.cons rfl (fun K hK => ?_) ?_
              · go_simp
                refine hK _ _ ?_
                clear hK K
                refine wpAnyIn_ready (rs := [5]) (by kernel_rfl) (by simp) ?_
                refine AllReadyIn.cons rfl (fun K hK => ?_) ?_
                · go_simp
                  refine hK _ _ ?_
                  clear hK K
                  refine wpAnyIn_ready (rs := [6]) (by kernel_rfl) (by simp) ?_
                  refine AllReadyIn.cons rfl (fun K hK => ?_) ?_
                  · go_simp
                    refine hK _ _ ?_
                    clear hK K
                    refine wpAnyIn_done (by kernel_rfl) ?_ _
                    clear hw1
                    gi_wp2
                    rw [HO.out]
                    exact HG.out _ (by omega)
                  exact AllReadyIn.nil
                exact AllReadyIn.nil
              exact AllReadyIn.nil
            exact AllReadyIn.nil
          exact AllReadyIn.nil
        exact AllReadyIn.nil
      refine AllReadyIn.cons rfl (fun K hK => ?_) ?_
      · go_simp
        refine hK _ _ ?_
        clear hK K
        refine wpAnyIn_ready (rs := [0, 1]) (by kernel_rfl) (by simp) ?_
        refine AllReadyIn.cons rfl (fun K hK => ?_) ?_
        · go_simp
          refine hK _ _ ?_
          clear hK K
          refine wpAnyIn_ready (rs := [1]) (by kernel_rfl) (by simp) ?_
          refine AllReadyIn.cons rfl (fun K hK => ?_) ?_
          · go_simp
            refine hK _ _ ?_
            clear hK K
            refine wpAnyIn_ready (rs := [3]) (by kernel_rfl) (by simp) ?_
            refine AllReadyIn.cons rfl (fun K hK => ?_) ?_
            · go_simp
              refine hK _ _ ?_
              clear hK K
              refine wpAnyIn_ready (rs := [4]) (by kernel_rfl) (by simp) ?_
              refine AllReadyIn.cons rfl (fun K hK => ?_) ?_
              · go_simp
                refine hK _ _ ?_
                clear hK K
                refine wpAnyIn_ready (rs := [5]) (by kernel_rfl) (by simp) ?_
                refine AllReadyIn.cons rfl (fun K hK => ?_) ?_
                · go_simp
                  refine hK _ _ ?_
                  clear hK K
                  refine wpAnyIn_ready (rs := [6]) (by kernel_rfl) (by simp) ?_
                  refine AllReadyIn.cons rfl (fun K hK => ?_) ?_
                  · go_simp
                    refine hK _ _ ?_
                    clear hK K
                    refine wpAnyIn_done (by kernel_rfl) ?_ _
                    clear hw1
                    gi_wp2
                    rw [HO.out]
                    exact HG.out _ (by omega)
                  exact AllReadyIn.nil
                exact AllReadyIn.nil
              exact AllReadyIn.nil
            exact AllReadyIn.nil
          exact AllReadyIn.nil
        refine AllReadyIn.cons rfl (fun K hK => ?_) ?_
        · go_simp
          refine hK _ _ ?_
          clear hK K
          refine wpAnyIn_ready (rs := [0, 3]) (by kernel_rfl) (by simp) ?_
          refine AllReadyIn.cons rfl (fun K hK => ?_) ?_
          · go_simp
            refine hK _ _ ?_
            clear hK K
            refine wpAnyIn_ready (rs := [3]) (by kernel_rfl) (by simp) ?_
            refine AllReadyIn.cons rfl (fun K hK => ?_) ?_
            · go_simp
              refine hK _ _ ?_
              clear hK K
              refine wpAnyIn_ready (rs := [4]) (by kernel_rfl) (by simp) ?_
              refine AllReadyIn.cons rfl (fun K hK => ?_) ?_
              · go_simp
                refine hK _ _ ?_
                clear hK K
                refine wpAnyIn_ready (rs := [5]) (by kernel_rfl) (by simp) ?_
                refine AllReadyIn.cons rfl (fun K hK => ?_) ?_
                · go_simp
                  refine hK _ _ ?_
                  clear hK K
                  refine wpAnyIn_ready (rs := [6]) (by kernel_rfl) (by simp) ?_
                  refine AllReadyIn.cons rfl (fun K hK => ?_) ?_
                  · go_simp
                    refine hK _ _ ?_
                    clear hK K
                    refine wpAnyIn_done (by kernel_rfl) ?_ _
                    clear hw1
                    gi_wp2
                    rw [HO.out]
                    exact HG.out _ (by omega)
                  exact AllReadyIn.nil
                exact AllReadyIn.nil
              exact AllReadyIn.nil
            exact AllReadyIn.nil
          refine AllReadyIn.cons rfl (fun K hK => ?_) ?_
          · go_simp
            refine hK _ _ ?_
            clear hK K
            refine wpAnyIn_ready (rs := [0, 4]) (by kernel_rfl) (by simp) ?_
            refine AllReadyIn.cons rfl (fun K hK => ?_) ?_
            · go_simp
              refine hK _ _ ?_
              clear hK K
              refine wpAnyIn_ready (rs := [4]) (by kernel_rfl) (by simp) ?_
              refine AllReadyIn.cons rfl (fun K hK => ?_) ?_
              · go_simp
                refine hK _ _ ?_
                clear hK K
                refine wpAnyIn_ready (rs := [5]) (by kernel_rfl) (by simp) ?_
                refine AllReadyIn.cons rfl (fun K hK => ?_) ?_
                · go_simp
                  refine hK _ _ ?_
                  clear hK K
                  refine wpAnyIn_ready (rs := [6]) (by kernel_rfl) (by simp) ?_
                  refine AllReadyIn.cons rfl (fun K hK => ?_) ?_
                  · go_simp
                    refine hK _ _ ?_
                    clear hK K
                    refine wpAnyIn_done (by kernel_rfl) ?_ _
                    clear hw1
                    gi_wp2
                    rw [HO.out]
                    exact HG.out _ (by omega)
                  exact AllReadyIn.nil
                exact AllReadyIn.nil
              exact AllReadyIn.nil
            refine AllReadyIn.cons rfl (fun K hK => ?_) ?_
            · go_simp
              refine hK _ _ ?_
              clear hK K
              refine wpAnyIn_ready (rs := [0]) (by kernel_rfl) (by simp) ?_
              refine AllReadyIn.cons rfl (fun K hK => ?_) ?_
              · go_simp
                refine hK _ _ ?_
                clear hK K
                refine wpAnyIn_ready (rs := [5]) (by kernel_rfl) (by simp) ?_
                refine AllReadyIn.cons rfl (fun K hK => ?_) ?_
                · go_simp
                  refine hK _ _ ?_
                  clear hK K
                  refine wpAnyIn_ready (rs := [6]) (by kernel_rfl) (by simp) ?_
                  refine AllReadyIn.cons rfl (fun K hK => ?_) ?_
                  · go_simp
                    refine hK _ _ ?_
                    clear hK K
                    refine wpAnyIn_done (by kernel_rfl) ?_ _
                    clear hw1
                    gi_wp2
                    rw [HO.out]
                    exact HG.out _ (by omega)
                  exact AllReadyIn.nil
                exact AllReadyIn.nil
              exact AllReadyIn.nil
            exact AllReadyIn.nil
          exact AllReadyIn.nil
        exact AllReadyIn.nil
      exact AllReadyIn.nil
  case done =>
    rintro D xs r W hD rfl ⟨⟨nx, st, hf, hnx, hst, b9, b10⟩, bA, b4, b5, c1, c0, c2, hB⟩ hK
    rw [hf] at HV
    have k9 := b9.cell
    have k4 := b4.cell
    have f4 := b4.frozen
    have k5 := b5.cell
    have f5 := b5.frozen
    have k5' := setCell_far (q := ⟨w.heap.size + 1, 0, none⟩) (u := .int .i64 st) k5 (by simp only; omega)
    have hDW : D < W.heap.size := (Array.getElem?_eq_some_iff.1 hK).1
    have HR := Lib.hid (two_cells b4 b5 (.int .i64 st) .nilIface (by omega))
    have HB : Hid (Below w.heap.size w ((W.setCell ⟨w.heap.size + 1, 0, none⟩ (.int .i64 st)).setCell ⟨w.heap.size + 1 + 1, 0, none⟩ .nilIface)) := Lib.hid ((hB.setCell (p := ⟨w.heap.size + 1, 0, none⟩) (by simp) _).setCell (p := ⟨w.heap.size + 1 + 1, 0, none⟩) (by simp; omega) _)
    have HK : Hid (((W.setCell ⟨w.heap.size + 1, 0, none⟩ (.int .i64 st)).setCell ⟨w.heap.size + 1 + 1, 0, none⟩ .nilIface).heap[D]? = some (.deferred (some []))) := Lib.hid (((KeepsOthers.setCell W _ _).trans (KeepsOthers.setCell _ _ _)).same D _ hK rfl)
    gi_wp2
    refine ⟨by simp, .inl ⟨_, _, rfl, run_takeDeferred HK.out, ?_⟩⟩
    refine ⟨.tuple #[.int .i64 st, .nilIface], ?_, by rw [HV.out], HB.out.trans (belowK_b (w := w) (Nat.le_refl _) _ D _ _ (by omega) HK.out rfl rfl)⟩
    have r4 := cell_kept HR.out.1 (grownBy_putObj' _ D (.deferred none)) (fun r e => by cases e; exact ⟨_, HK.out, rfl⟩)
    have r5 := cell_kept HR.out.2 (grownBy_putObj' _ D (.deferred none)) (fun r e => by cases e; exact ⟨_, HK.out, rfl⟩)
    simp [results, Tryz.results197, go_sem, r4, r5]
  case stop =>
    rintro D k pre W hD ⟨rfl, hf, b4, b5, hB⟩ hK
    rw [hf] at HV
    gi_wp2
    refine ⟨by simp, .inl ⟨_, _, rfl, run_takeDeferred hK, ?_⟩⟩
    refine ⟨.tuple #[.int .i64 0, .iface 314 (.pointer (some e2))], ?_, by rw [HV.out], hB.trans (belowK_b (w := w) (Nat.le_refl _) _ D _ _ (by omega) hK rfl rfl)⟩
    have r4 := cell_kept b4.cell (grownBy_putObj' _ D (.deferred none)) (fun r e => by cases e; exact ⟨_, hK, rfl⟩)
    have r5 := cell_kept b5.cell (grownBy_putObj' _ D (.deferred none)) (fun r e => by cases e; exact ⟨_, hK, rfl⟩)
    simp [results, Tryz.results197, go_sem, r4, r5]

theorem parse_any {w : World} {a : Option Addr} {n c : Nat} {ss : List ByteArray} {e0 e1 e2 : Addr} (s : ByteArray) (hs : s.size ≤ 9223372036854775807) (E : Errs w e0 e1 e2) (A : StrArg w a n c ss) (h8 : n ≤ 8) :
    Calls Tryz.prog 197 #[.slice a n c, .string s] w fun e w' => e = .returned (parseV e2 ss s) ∧ Below w.heap.size w w' := by
  cases h : (Lib.hasPrefix s.data.toList [123] && Lib.hasSuffix (Lib.trimPrefix s.data.toList [123]) [125])
  · exact parse_bad a n c s hs E h
  · rw [Bool.and_eq_true] at h
    by_cases hu : Lib.trimSuffix (Lib.trimPrefix s.data.toList [123]) [125] = []
    · exact parse_empty a n c e2 s hs h.1 h.2 hu
    · exact parse_names s hs E A h8 h.1 h.2 hu

/-- what Parse answers -/
def ParseV (ss : List ByteArray) (s : ByteArray) : Value :=
  if actsB ss then (match parseO ss s.data.toList with | some y => .tuple #[.int .i64 y, .int .i64 0] | none => .tuple #[.int .i64 0, .int .i64 11]) else .tuple #[.int .i64 0, .int .i64 10]
set_option maxHeartbeats 400000 in
/-- act.Parse -/
theorem Parse_any {w : World} {a : Option Addr} {n c : Nat} {ss : List ByteArray} {e0 e1 e2 : Addr} (s : ByteArray) (hs : s.size ≤ 9223372036854775807) (E : Errs w e0 e1 e2) (A : StrArg w a n c ss) :
    Calls Tryz.prog 179 #[.slice a n c, .string s] w fun e w' => e = .returned (ParseV ss s) ∧ Below w.heap.size w w' := by
  have HC := Lib.hid (checkActions_arg E A)
  have HE := Lib.hid E
  cases hb : actsB ss
  · rw [actsErr_no e0 hb] at HC
    have HV : Hid (ParseV ss s = .tuple #[.int .i64 0, .int .i64 10]) := Lib.hid (by unfold ParseV; rw [hb]; rfl)
    clear hb E A
    go_enter Tryz.func179, Tryz.ntmps179
    go_wp2_with fail
    refine HC.out.mono ?_
    rintro e w' ⟨rfl, rfl⟩
    go_wp2_with fail
    refine (code_acts _ _ _ _ HE.out).mono ?_
    rintro e w' ⟨rfl, rfl⟩
    go_wp2
    go_ret2
    exact ⟨by rw [HV.out]; rfl, Below.refl _ _⟩
  · rw [actsErr_yes e0 hb] at HC
    have HP := Lib.hid (parse_any s hs E A (by have := ((actsB_iff ss).1 hb).1; have := A.len; omega))
    cases ho : parseO ss s.data.toList with
    | none =>
      have HV : Hid (ParseV ss s = .tuple #[.int .i64 0, .int .i64 11]) := Lib.hid (by unfold ParseV; rw [hb, ho]; rfl)
      rw [parseV_none ho] at HP
      clear hb E A ho
      go_enter Tryz.func179, Tryz.ntmps179
      go_wp2_with fail
      refine HC.out.mono ?_
      rintro e w' ⟨rfl, rfl⟩
      go_wp2_with fail
      refine HP.out.mono ?_
      rintro e w1 ⟨rfl, hb1⟩
      go_wp2_with fail
      refine (code_text _ _ _ _ (HE.out.below hb1)).mono ?_
      rintro e w' ⟨rfl, rfl⟩
      go_wp2
      go_ret2
      exact ⟨by rw [HV.out]; rfl, hb1⟩
    | some y =>
      have HV : Hid (ParseV ss s = .tuple #[.int .i64 y, .int .i64 0]) := Lib.hid (by unfold ParseV; rw [hb, ho]; rfl)
      rw [parseV_some ho] at HP
      clear hb E A ho
      go_enter Tryz.func179, Tryz.ntmps179
      go_wp2_with fail
      refine HC.out.mono ?_
      rintro e w' ⟨rfl, rfl⟩
      go_wp2_with fail
      refine HP.out.mono ?_
      rintro e w1 ⟨rfl, hb1⟩
      go_wp2_with fail
      refine (code_nil _ _ _ _ (HE.out.below hb1)).mono ?_
      rintro e w' ⟨rfl, rfl⟩
      go_wp2
      go_ret2
      exact ⟨by rw [HV.out]; rfl, hb1⟩
end Go.Proofs.YtgnbkepdbdgkdaaGreatDoor
