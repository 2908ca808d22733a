/- Texts joined: Obj, PText, SParse, Offer, Members, Collect. -/
import Derived.Test.YtbncofgbpffmkaaGreatDoorJc12
import Derived.Deep.RegionHeld3
import Derived.Lib.QuietBelow
import Derived.Test.YtbncofgbpffmkaaGreatDoorJc03
import Derived.Test.YtbncofgbpffmkaaGreatDoorJc00
import Derived.Shelf.Spec.TrailingZeros
import Derived.Maps.AppendAt
/- Plain facts: what a string of an object is read as, whatever its kind and the rows of its states; nothing here is about a program. -/
namespace Go.Proofs.YtbncofgbpffmkaaGreatDoor.Pl
open Go Go.Lib

/-- the actions of a first line of a kind -/
def headK (kw : List UInt8) (line : List UInt8) : Option (List ByteArray) :=
  match sp 32 line with
  | [] => none
  | h :: r => if h = kw ∧ actsB (r.map mk) = true then some (r.map mk) else none
/-- the line of a state -/
def rowK {R : Type} (rp : List ByteArray → List (List UInt8) → Option R) (acts : List ByteArray) (i : Nat) (line : List UInt8) : Option R :=
  match sp 32 line with
  | [] => none
  | h :: r => if h = decDigits i ++ [58] then rp acts r else none
def rowsK {R : Type} (rp : List ByteArray → List (List UInt8) → Option R) (acts : List ByteArray) : Nat → List (List UInt8) → Option (List R)
  | _, [] => some []
  | i, l :: r => match rowK rp acts i l with
    | none => none
    | some es => (rowsK rp acts (i + 1) r).map fun ss => es :: ss
/-- the actions, the rows, the error -/
def textK {R : Type} (kw : List UInt8) (rp : List ByteArray → List (List UInt8) → Option R) (s : List UInt8) : List ByteArray × List R × Int :=
  if 60000 < s.length then ([], [], 2) else
  match sp 10 (cut1 s) with
  | [] => ([], [], 11)
  | l0 :: ls =>
    match headK kw l0 with
    | none => ([], [], 11)
    | some acts =>
      match rowsK rp acts 0 ls with
      | none => ([], [], 11)
      | some ss => (acts, ss, 0)
theorem rowsK_bad {R : Type} {rp : List ByteArray → List (List UInt8) → Option R} {acts : List ByteArray} : ∀ (ls : List (List UInt8)) (i k : Nat), k < ls.length → rowK rp acts (i + k) (ls.getD k []) = none → rowsK rp acts i ls = none
  | [], i, k, h, _ => by simp at h
  | l :: ls, i, 0, _, h => by
    unfold rowsK
    have : rowK rp acts i l = none := by simpa using h
    rw [this]
  | l :: ls, i, k + 1, hk, h => by
    have ih := rowsK_bad ls (i + 1) k (by simpa using hk) (by rw [Nat.add_right_comm, Nat.add_assoc]; simpa using h)
    unfold rowsK
    rw [ih]
    split <;> rfl
theorem rowsK_good {R : Type} {rp : List ByteArray → List (List UInt8) → Option R} {acts : List ByteArray} : ∀ (ls : List (List UInt8)) (i : Nat) (ss : List R), ss.length = ls.length → (∀ k, k < ls.length → ∃ x, ss[k]? = some x ∧ rowK rp acts (i + k) (ls.getD k []) = some x) → rowsK rp acts i ls = some ss
  | [], i, ss, h, _ => by
    have : ss = [] := List.length_eq_zero_iff.1 (by simpa using h)
    subst this; rfl
  | l :: ls, i, [], h, _ => by simp at h
  | l :: ls, i, es :: ss, h, hg => by
    obtain ⟨x0, h0, h0'⟩ := hg 0 (by simp)
    have ih := rowsK_good ls (i + 1) ss (by simpa using h) (fun k hk => by
      obtain ⟨x, h1, h2⟩ := hg (k + 1) (by simpa using hk)
      exact ⟨x, by simpa using h1, by rw [Nat.add_right_comm, Nat.add_assoc]; simpa using h2⟩)
    unfold rowsK
    have h1 : rowK rp acts i l = some es := by
      simp at h0
      rw [h0]; simpa using h0'
    rw [h1, ih]
    rfl
theorem textK_large {R : Type} {kw : List UInt8} {rp : List ByteArray → List (List UInt8) → Option R} {l : List UInt8} (h : 60000 < l.length) : textK kw rp l = ([], [], 2) := if_pos h
theorem cut1_le (l : List UInt8) : (cut1 l).length ≤ l.length := by
  unfold cut1 Lib.trimSuffix
  split
  · rw [List.length_take]; omega
  · exact Nat.le_refl _
theorem mkd (l : List UInt8) : (mk l).data.toList = l := by simp [mk]
theorem mk_iff (h : List UInt8) (x : ByteArray) : mk h = x ↔ h = x.data.toList := ⟨fun q => by rw [← q, mkd], fun q => by rw [q]; exact mk_of x⟩
end Go.Proofs.YtbncofgbpffmkaaGreatDoor.Pl
namespace Go.Proofs.YtbncofgbpffmkaaGreatDoor
open Go.RowKit Pl
/-- the lines behind the first one -/
theorem textK_lines {R : Type} (kw : List UInt8) (rp : List ByteArray → List (List UInt8) → Option R) {s : ByteArray} (h : ¬ 60000 < s.data.toList.length) :
    ∃ ls : List (List UInt8), (spB 10 (mk (cut1 s.data.toList))).drop 1 = ls.map mk ∧ (spB 10 (mk (cut1 s.data.toList))).length = ls.length + 1 ∧
    textK kw rp s.data.toList = match headK kw (at_ (spB 10 (mk (cut1 s.data.toList))) 0).data.toList with
      | none => ([], [], 11)
      | some acts => match rowsK rp acts 0 ls with
        | none => ([], [], 11)
        | some ss => (acts, ss, 0) := by
  unfold textK spB
  rw [if_neg h, mkd]
  cases e : sp 10 (cut1 s.data.toList) with
  | nil => exact absurd e (sp_ne _ _)
  | cons l0 ls =>
    refine ⟨ls, rfl, by simp, ?_⟩
    have e1 : (at_ ((l0 :: ls).map mk) 0).data.toList = l0 := by
      show (mk l0).data.toList = l0
      exact mkd l0
    rw [e1]
theorem headK_eq (kw : ByteArray) (s : ByteArray) : headK kw.data.toList s.data.toList = if at_ (spB 32 s) 0 = kw ∧ actsB ((spB 32 s).drop 1) = true then some ((spB 32 s).drop 1) else none := by
  unfold headK spB
  cases e : sp 32 s.data.toList with
  | nil => exact absurd e (sp_ne _ _)
  | cons h r =>
    have e1 : at_ ((h :: r).map mk) 0 = mk h := rfl
    have e2 : ((h :: r).map mk).drop 1 = r.map mk := rfl
    rw [e1, e2]
    simp only [mk_iff]
theorem rowK_eq {R : Type} (rp : List ByteArray → List (List UInt8) → Option R) (acts : List ByteArray) (i : Nat) (s : ByteArray) : ∃ r : List (List UInt8), (spB 32 s).drop 1 = r.map mk ∧ (spB 32 s).length = r.length + 1 ∧ (∀ x ∈ r, x.length ≤ s.size) ∧
    rowK rp acts i s.data.toList = if at_ (spB 32 s) 0 = mk (Lib.decDigits i ++ [58]) then rp acts r else none := by
  have hall : ∀ x ∈ spB 32 s, x.size ≤ s.size := fun x hx => spB_size hx
  unfold rowK
  unfold spB at hall ⊢
  cases e : sp 32 s.data.toList with
  | nil => exact absurd e (sp_ne _ _)
  | cons h r =>
    refine ⟨r, rfl, by simp, fun x hx => ?_, ?_⟩
    · have := hall (mk x) (by rw [e]; exact List.mem_map_of_mem (List.mem_cons_of_mem _ hx))
      rwa [mk_size'] at this
    · have e1 : at_ ((h :: r).map mk) 0 = mk h := rfl
      rw [e1]
      simp only [mk_iff, mkd]
/-- what is read of a system -/
theorem rowsO_K (acts : List ByteArray) : ∀ (ls : List (List UInt8)) (i : Nat), rowsO acts i ls = rowsK edgesO acts i ls
  | [], _ => rfl
  | l :: ls, i => by
    have e : rowO acts i l = rowK edgesO acts i l := by unfold rowO rowK; cases sp 32 l <;> rfl
    unfold rowsO rowsK
    rw [rowsO_K acts ls (i + 1), e]
    cases rowK edgesO acts i l <;> rfl
theorem parseS_K (s : List UInt8) : parseS s = if (textK bSystem edgesO s).2.2 = 0 then (if sysB ⟨(textK bSystem edgesO s).1, (textK bSystem edgesO s).2.1⟩ = true then (⟨(textK bSystem edgesO s).1, (textK bSystem edgesO s).2.1⟩, 0) else (noSys, 20)) else (noSys, (textK bSystem edgesO s).2.2) := by
  unfold parseS textK
  by_cases h : 60000 < s.length
  · rw [if_pos h, if_pos h]; rfl
  · rw [if_neg h, if_neg h]
    cases e : sp 10 (cut1 s) with
    | nil => rfl
    | cons l0 ls =>
      have e1 : headO l0 = headK bSystem l0 := rfl
      simp only [e1]
      cases headK bSystem l0 with
      | none => rfl
      | some acts =>
        simp only [rowsO_K]
        cases rowsK edgesO acts 0 ls with
        | none => rfl
        | some ss => rfl
end Go.Proofs.YtbncofgbpffmkaaGreatDoor
/- terms.ParseText, as system.Parse calls it. -/
namespace Go.Proofs.YtbncofgbpffmkaaGreatDoor
open Go.RowKit Pl

theorem RowsOwn.low {w : World} {base base' : Nat} {v : Value} {ss : List (List Edg)} (h : RowsOwn w base v ss) (hb : base' ≤ base) : RowsOwn w base' v ss := by
  obtain ⟨rows, r1, r2, r3⟩ := h
  refine ⟨rows, r1, own_low r2 hb, fun i hi => ?_⟩
  obtain ⟨r, h1, h2⟩ := r3 i hi
  exact ⟨r, h1, own_low h2 hb⟩

end Go.Proofs.YtbncofgbpffmkaaGreatDoor
/- system.Parse. -/
namespace Go.Proofs.YtbncofgbpffmkaaGreatDoor
open Go.RowKit Pl

theorem parseS_large {l : List UInt8} (h : 60000 < l.length) : parseS l = (noSys, 2) := if_pos h
/-- the lines behind the first one -/
theorem parseS_lines {s : ByteArray} (h : ¬ 60000 < s.data.toList.length) : ∃ ls : List (List UInt8), (spB 10 (mk (cut1 s.data.toList))).drop 1 = ls.map mk ∧ (spB 10 (mk (cut1 s.data.toList))).length = ls.length + 1 ∧
    parseS s.data.toList = match headO (at_ (spB 10 (mk (cut1 s.data.toList))) 0).data.toList with
      | none => (noSys, 11)
      | some acts => match rowsO acts 0 ls with
        | none => (noSys, 11)
        | some ss => if sysB ⟨acts, ss⟩ = true then (⟨acts, ss⟩, 0) else (noSys, 20) := by
  unfold parseS spB
  rw [if_neg h, mk_data]
  cases e : sp 10 (cut1 s.data.toList) with
  | nil => exact absurd e (sp_ne _ _)
  | cons l0 ls =>
    refine ⟨ls, rfl, by simp, ?_⟩
    have e1 : (at_ ((l0 :: ls).map mk) 0).data.toList = l0 := by
      show (mk l0).data.toList = l0
      exact mk_data l0
    rw [e1]
    rfl
/-- rows one by one -/
theorem rowsO_bad {acts : List ByteArray} : ∀ (ls : List (List UInt8)) (i k : Nat), k < ls.length → rowO acts (i + k) (ls.getD k []) = none → rowsO acts i ls = none
  | [], i, k, h, _ => by simp at h
  | l :: ls, i, 0, _, h => by
    unfold rowsO
    have : rowO acts i l = none := by simpa using h
    rw [this]
  | l :: ls, i, k + 1, hk, h => by
    have ih := rowsO_bad ls (i + 1) k (by simpa using hk) (by rw [Nat.add_right_comm, Nat.add_assoc]; simpa using h)
    unfold rowsO
    rw [ih]
    split <;> rfl
theorem rowsO_good {acts : List ByteArray} : ∀ (ls : List (List UInt8)) (i : Nat) (ss : List (List Edg)), ss.length = ls.length → (∀ k, k < ls.length → rowO acts (i + k) (ls.getD k []) = some (stAt ss k)) → rowsO acts i ls = some ss
  | [], i, ss, h, _ => by
    have : ss = [] := List.length_eq_zero_iff.1 (by simpa using h)
    subst this; rfl
  | l :: ls, i, [], h, _ => by simp at h
  | l :: ls, i, es :: ss, h, hg => by
    have h0 := hg 0 (by simp)
    have ih := rowsO_good ls (i + 1) ss (by simpa using h) (fun k hk => by
      have := hg (k + 1) (by simpa using hk)
      rw [Nat.add_right_comm, Nat.add_assoc]
      simpa [stAt, List.getD] using this)
    unfold rowsO
    have h1 : rowO acts i l = some es := by simpa [stAt, List.getD] using h0
    rw [h1, ih]
    rfl

end Go.Proofs.YtbncofgbpffmkaaGreatDoor
/- offered; checkState; system.Offer. -/
namespace Go.Proofs.YtbncofgbpffmkaaGreatDoor
open Go.RowKit Pl

def offN (l : List Edg) : Nat := l.foldl (fun s e => s ||| 2 ^ e.1.toNat) 0
theorem offN_take {l : List Edg} {j : Nat} (h : j < l.length) : offN (l.take (j + 1)) = offN (l.take j) ||| 2 ^ (edAt l j).1.toNat := by
  have e : edAt l j = l[j] := by simp [edAt, List.getD, h]
  unfold offN
  rw [List.take_succ_eq_append_getElem h, List.foldl_append, e]
  rfl
theorem offN_lt {l : List Edg} (h : ∀ k, k < l.length → 0 ≤ (edAt l k).1 ∧ (edAt l k).1 < 8) : ∀ j, j ≤ l.length → offN (l.take j) < 256
  | 0, _ => by simp [offN]
  | j + 1, hj => by
    rw [offN_take (by omega)]
    have h1 := h j (by omega)
    exact Nat.or_lt_two_pow (n := 8) (offN_lt h j (by omega)) (Nat.pow_lt_pow_right (by decide) (by omega))

theorem offered_any {w : World} {a : Option Addr} {n c : Nat} {l : List Edg} (A : EdgeArg w a n c l) (h8 : ∀ k, k < l.length → 0 ≤ (edAt l k).1 ∧ (edAt l k).1 < 8) :
    Calls Tryz.prog 37 #[.slice a n c] w fun e w' => e = .returned (.int .i64 (offN l)) ∧ Below w.heap.size w w' := by
  have HA := Lib.hid A
  have hn : n ≤ 140737488355328 := A.big
  have H8 := Lib.hid h8
  clear A h8
  go_enter Tryz.func37, Tryz.ntmps37
  go_wp2
  go_loopw [3, 5, 8] (fun s _ i wr => ∃ j t : Nat, j ≤ n ∧ i = .int .i64 j ∧ s = .int .i64 t ∧ t < 256 ∧ Hid (t = offN (l.take j)) ∧ Below w.heap.size w wr) (fun _ _ i _ => n - (intOf i).toNat)
  case atStart => exact ⟨0, 0, Nat.zero_le _, rfl, rfl, by decide, Lib.hid rfl, Below.refl _ _⟩
  case round =>
    obtain ⟨j, t, hj, rfl, rfl, ht, htb, hb⟩ := hrel
    by_cases hlt : j < n
    · obtain ⟨b, off, rfl, c0, c1⟩ := (HA.out.cells.below hb) j (by have := HA.out.len; omega)
      obtain ⟨h1, h2⟩ := H8.out j (by have := HA.out.len; omega)
      obtain ⟨m, hm⟩ := Int.eq_ofNat_of_zero_le h1
      obtain ⟨x2, hx2⟩ : ∃ x2, x2 = (edAt l j).2 := ⟨_, rfl⟩
      rw [← hx2] at c1
      rw [hm] at c0 h2
      obtain ⟨R, HR⟩ : ∃ R : Nat, Hid (R = t ||| 2 ^ m) := ⟨_, Lib.hid rfl⟩
      have hR : R < 256 := by rw [HR.out]; exact Nat.or_lt_two_pow (n := 8) ht (Nat.pow_lt_pow_right (by decide) (by omega))
      have HT : Hid (R = offN (l.take (j + 1))) := Lib.hid (by rw [offN_take (by have := HA.out.len; omega), hm, ← htb.out, HR.out]; rfl)
      have HO : Hid (bits .or .i64 (t : Int) (wrap64 (2 ^ m)) = (R : Int)) := Lib.hid (by
        have h2 := pow_le m (by omega)
        have h3 : ((2 ^ m : Nat) : Int) = (2 : Int) ^ m := by norm_cast
        have h4 : 2 ^ m < 256 := Nat.pow_lt_pow_right (n := 8) (by decide) (by omega)
        rw [IntWalk.wrap64_in _ ⟨by omega, by omega⟩, ← h3, HR.out]
        exact i64_or_nat t _ (by omega) (by omega))
      have HB := Lib.hid (hb.alloc hb.size (.cells #[.int .i64 m, .int .i64 x2] 58))
      clear hb h1 hm hx2
      go_wp2
      rw [HO.out]
      go_wp2
      go_roundw
      case rel => exact ⟨j + 1, R, by omega, by go_num, rfl, hR, HT, HB.out⟩
      case measure => simp [intOf]; omega
    · have HT : Hid (t = offN l) := Lib.hid (by
        have := htb.out
        rw [List.take_of_length_le (by have := HA.out.len; omega)] at this
        exact this)
      have HB := Lib.hid hb
      clear hb
      go_wp2
      go_ret
      exact ⟨by rw [HT.out]; rfl, HB.out⟩

/-- the error for a system and a state -/
def stC (m : Syst) (x : Int) : Int := if sysB m = true then (if 0 ≤ x ∧ x < m.states.length then 0 else 1) else 20
def offerV (m : Syst) (x : Int) : Int := if stC m x = 0 then (offN (stAt m.states x.toNat) : Int) else 0
end Go.Proofs.YtbncofgbpffmkaaGreatDoor
/- The members of a set, as the iterator yields them. -/
namespace Go.Proofs.YtbncofgbpffmkaaGreatDoor
open Go.RowKit Go.Shelf Pl

theorem memL_next : ∀ x, x < 256 → x ≠ 0 → memL x = Lib.ctz 64 x :: memL (x &&& (x - 1)) ∧ x &&& (x - 1) < x := by decide +kernel
theorem memL_zero : memL 0 = [] := by decide
theorem memL_lt {x k : Nat} (h : k ∈ memL x) : k < 8 := by
  unfold memL at h
  rw [List.mem_filter, List.mem_range] at h
  exact h.1

/-- the table that math/bits looks up -/
def Tab (w : World) : Prop := TabAt 4 Lib.deBruijn64tab w
theorem Tab.below {w w' : World} (h : Tab w) (hb : Below w.heap.size w w') : Tab w' := fun j hj => (hb.cell (lt_of_cell (h j hj))).trans (h j hj)

set_option maxHeartbeats 400000 in
theorem tz64_core (x k idx : Nat) (w : World) (hx0 : ((x : Int) == 0) = false)
    (key : IntKind.u64.wrap (bits BinOp.and IntKind.u64 (x : Int) (IntKind.u64.wrap (-(x : Int))) * 285870213051353865) / 288230376151711744 = (idx : Int))
    (hi : idx < 64) (hk : k < 64) (hcell : w.cell? ⟨4, idx, none⟩ = some (.int .u8 k)) :
    Calls Tryz.prog 105 #[.int .u64 x] w fun e w' => e = .returned (.int .i64 k) ∧ w = w' := by
  go_enter Tryz.func105, Tryz.ntmps105
  go_wp2_with (simp only [key])
  go_ret
  exact ⟨rfl, rfl⟩
theorem tz64_any (x : Nat) (hx : x < 18446744073709551616) (h0 : x ≠ 0) (w : World) (hT : Tab w) :
    Calls Tryz.prog 105 #[.int .u64 x] w fun e w' => e = .returned (.int .i64 (Lib.ctz 64 x)) ∧ w = w' := by
  obtain ⟨hlow, hk⟩ := Lib.lowest_bit 64 x h0 hx
  obtain ⟨hi, htab⟩ := Lib.deBruijn64_at _ hk
  have hcell := hT _ hi
  rw [htab] at hcell
  exact tz64_core x _ _ w (by simp; omega) (tz64_key x _ hx h0 hlow) hi hk hcell
theorem tz_any (x : Nat) (hx : x < 18446744073709551616) (h0 : x ≠ 0) (w : World) (hT : Tab w) :
    Calls Tryz.prog 86 #[.int .u64 x] w fun e w' => e = .returned (.int .i64 (Lib.ctz 64 x)) ∧ w = w' := by
  have HT := Lib.hid hT
  clear hT
  go_enter Tryz.func86, Tryz.ntmps86
  go_wp2_with fail
  refine (tz64_any x hx h0 _ HT.out).mono ?_
  rintro e w' ⟨rfl, rfl⟩
  go_wp2
  go_ret
  exact ⟨rfl, rfl⟩

attribute [local go_sem] Oper.semAt_some

set_option maxRecDepth 100000 in
set_option maxHeartbeats 1000000 in
/-- the iterator that members makes -/
theorem members_iter (B C x : Nat) (hx : x < 256) (I : List Nat → World → Prop) (Ix : Code → List Nat → World → Prop)
    (hT : ∀ pre V, I pre V → Tab V) (hC : ∀ pre V, I pre V → V.cell? ⟨C, 0, none⟩ = some (.int .i64 x)) :
    IterOf Tryz.prog 85 #[.pointer (some ⟨C, 0, none⟩)] (fun k : Nat => #[.int .i64 k]) (fun pre k => pre ++ [k] <+: memL x) (fun xs => xs = memL x) B I Ix := by
  intro l Bk Bx W _ _ hY h0 hb0
  have hc0 := hC _ _ h0
  have HT := Lib.hid hT
  clear hT hC
  have HY := Lib.hid hY
  clear hY
  refine callsIn_of_wp Tryz.func85 rfl trivial ?_ rfl
  simp only [Tryz.ntmps85, List.size_toArray, List.length_cons, List.length_nil, Nat.reduceAdd, Nat.reduceSub, Array.replicate_succ, Array.replicate_zero, List.push_toArray, List.append_toArray, List.nil_append, List.cons_append]
  gi_wp2
  gi_loopw [3] (fun p V => ∃ (pre : List Nat) (r : Nat), p = .int .u64 r ∧ r < 256 ∧ Hid (memL x = pre ++ memL r) ∧ Hid (I pre V ∧ Bk V)) (fun p _ => (intOf p).toNat)
  case atStart => exact ⟨[], x, by simp, hx, Lib.hid rfl, Lib.hid ⟨h0, hb0⟩⟩
  case round =>
    obtain ⟨pre, r, rfl, hr, hm, hI⟩ := hrel
    by_cases hz : r = 0
    · subst hz
      gi_wp2
      go_end0
      exact ⟨⟨_, rfl⟩, .inl ⟨pre, (), by rw [hm.out, memL_zero, List.append_nil], hI.out.1, hI.out.2⟩⟩
    · obtain ⟨hn1, hn2⟩ := memL_next r hr hz
      have htz := Lib.hid (tz_any r (by omega) hz wr (HT.out _ _ hI.out.1))
      have hand := Lib.hid (bits_and_u64_nat r (r - 1) (by omega) (by omega))
      have hz' : ((r : Int) != 0) = true := by rw [bne_iff_ne]; omega
      obtain ⟨k, hk⟩ : ∃ k, Lib.ctz 64 r = k := ⟨_, rfl⟩
      obtain ⟨r', hr'⟩ : ∃ r', r &&& (r - 1) = r' := ⟨_, rfl⟩
      rw [hk] at hn1 htz
      rw [hr'] at hn1 hn2 hand
      have HM : Hid (memL x = (pre ++ [k]) ++ memL r') := Lib.hid (by rw [hm.out, hn1]; simp)
      clear hk hr' hn1 hz
      obtain ⟨fn, tmps, assign, body, hy, hR⟩ := HY.out () pre k wr hI.out.1 hI.out.2 ⟨memL r', HM.out.symm⟩
      gi_wp2_with (refine ⟨trivial, ?_⟩; gi_at_call 86; refine (callsIn_wide.2 htz.out).mono ?_; rintro e w' ⟨rfl, rfl⟩)
      refine hR.mono ?_
      rintro e W3 (⟨rfl, hI3, hb3⟩ | ⟨rfl, c, hx3, hb3⟩)
      · have hr1 : 1 ≤ (r : Int) := by omega
        gi_wp2
        go_roundw
        case rel => exact ⟨pre ++ [k], r', by rw [show (r : Int) - 1 = ((r - 1 : Nat) : Int) from by omega, hand.out], by omega, HM, Lib.hid ⟨hI3, hb3⟩⟩
        case measure => rw [show (r : Int) - 1 = ((r - 1 : Nat) : Int) from by omega, hand.out]; simp [intOf]; omega
      · gi_wp2
        refine bodyPost_ret (results_none rfl _ _ _) rfl ?_
        exact ⟨⟨_, rfl⟩, .inr ⟨_, c, hx3, hb3⟩⟩
end Go.Proofs.YtbncofgbpffmkaaGreatDoor
/- slices.AppendSeq and slices.Collect at int, over an iterator that keeps what lay; act.List. -/
namespace Go.Proofs.YtbncofgbpffmkaaGreatDoor
open Go.RowKit Go.Shelf Pl

theorem infoInt : (Tryz.prog.info? 3).map (fun i => (i.zero, i.size, i.bytes)) = some (some (.int .i64 0), 1, 8) := by kernel_rfl

attribute [local go_sem] Oper.semAt_some

/-- act.members: a value that captures the set's new box -/
theorem members_any (x : Int) (w : World) :
    Calls Tryz.prog 67 #[.int .i64 x] w fun e w' => e = .returned (.func (.func 85) #[] #[.pointer (some ⟨w.heap.size, 0, none⟩)]) ∧ w.alloc (.cells #[.int .i64 x] 3) = w' := by
  go_enter Tryz.func67, Tryz.ntmps67
  go_wp2
  go_ret
  exact ⟨rfl, rfl⟩

theorem memL_len (x : Nat) : (memL x).length ≤ 8 := by
  unfold memL
  exact Nat.le_trans (List.length_filter_le _ _) (by simp)
theorem prefix_len {x : Nat} {pre : List Nat} {k : Nat} (h : pre ++ [k] <+: memL x) : pre.length < 8 := by
  have h1 := h.length_le
  have h2 := memL_len x
  rw [List.length_append, List.length_singleton] at h1
  omega

/-- the code that the check of a set answers -/
def setCode (ss : List ByteArray) (xs : List Int) : Int := if actsB ss then (if xs.all (setB ss.length) then 0 else 1) else 10
theorem setsErr_code {w : World} {e0 e1 e2 : Addr} (E : Errs w e0 e1 e2) (ss : List ByteArray) (xs : List Int) :
    Calls Tryz.prog 59 #[setsErr e0 e1 ss xs] w fun e w' => e = .returned (.int .i64 (setCode ss xs)) ∧ w = w' := by
  unfold setsErr setCode
  cases actsB ss
  · exact code_acts w e0 e1 e2 E
  · cases xs.all (setB ss.length)
    · exact code_set w e0 e1 e2 E
    · exact code_nil w e0 e1 e2 E
theorem setsErr_iface (e0 e1 : Addr) {ss : List ByteArray} {xs : List Int} (h : setCode ss xs ≠ 0) : ∃ a, setsErr e0 e1 ss xs = .iface 232 (.pointer (some a)) := by
  unfold setCode at h
  unfold setsErr
  cases h1 : actsB ss
  · exact ⟨e0, rfl⟩
  · cases h2 : xs.all (setB ss.length)
    · exact ⟨e1, rfl⟩
    · rw [h1, h2] at h; simp at h
theorem set_ok {ss : List ByteArray} {xs : List Int} (hz : setCode ss xs = 0) : actsB ss = true ∧ xs.all (setB ss.length) = true := by
  unfold setCode at hz
  cases h1 : actsB ss
  · rw [h1] at hz; simp at hz
  · cases h2 : xs.all (setB ss.length)
    · rw [h1, h2] at hz; simp at hz
    · exact ⟨rfl, rfl⟩
theorem one_int (w : World) (x : Int) (t : TypeId) : IntArg (w.alloc (.cells #[.int .i64 x] t)) (some ⟨w.heap.size, 0, none⟩) 1 1 [x] :=
  ⟨(fun h => by cases h), rfl, Nat.le_refl _, by omega, fun j hj => ⟨w.heap.size, 0, rfl, by
    have : j = 0 := by simp at hj; omega
    subst this
    exact cell_first w (.int .i64 x) t⟩⟩
theorem set_lt {ss : List ByteArray} {x : Int} (h : actsB ss = true) (hx : [x].all (setB ss.length) = true) : 0 ≤ x ∧ x < 256 := by
  have h8 := ((actsB_iff ss).1 h).1
  rw [List.all_cons, List.all_nil, Bool.and_true, setB_iff] at hx
  have h1 : 2 ^ ss.length ≤ 2 ^ 8 := Nat.pow_le_pow_right (by decide) h8
  have h3 : ((2 ^ ss.length : Nat) : Int) = (2 : Int) ^ ss.length := by norm_cast
  omega

/-- what List answers -/
def listL (ss : List ByteArray) (x : Int) : List Nat := if setCode ss [x] = 0 then memL x.toNat else []

end Go.Proofs.YtbncofgbpffmkaaGreatDoor
