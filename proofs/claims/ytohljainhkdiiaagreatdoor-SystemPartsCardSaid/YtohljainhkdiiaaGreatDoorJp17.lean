/- Texts joined: Same3, Members, Collect. -/
import Derived.Test.YtohljainhkdiiaaGreatDoorJp04
import Derived.Test.YtohljainhkdiiaaGreatDoorJp02
import Derived.Test.YtohljainhkdiiaaGreatDoorJp13
import Derived.Shelf.Spec.TrailingZeros
import Derived.Maps.AppendAt
/- slices.Equal and slices.EqualFunc as the program calls them; system.Same. -/
namespace Go.Proofs.YtohljainhkdiiaaGreatDoor
open Go.RowKit Pl

set_option maxHeartbeats 1000000 in
theorem eqStr_any {w : World} {a : Option Addr} {n c : Nat} {xs : List ByteArray} {a' : Option Addr} {n' c' : Nat} {ys : List ByteArray} (A : StrArg w a n c xs) (A' : StrArg w a' n' c' ys) :
    Calls Tryz.prog 85 #[.slice a n c, .slice a' n' c'] w fun e w' => e = .returned (.bool (decide (xs = ys))) ∧ Below w.heap.size w w' := by
  have HA := Lib.hid A
  have HA' := Lib.hid A'
  have h1 : n ≤ 9223372036854775807 := A.big
  have h2 : n' ≤ 9223372036854775807 := A'.big
  clear A A'
  by_cases hl : n = n'
  · subst hl
    have hq : ((n : Int) != n) = false := by simp
    go_enter Tryz.func85, Tryz.ntmps85
    go_wp2
    go_loopw [5, 13] (fun _ i wr => ∃ k : Nat, k ≤ n ∧ i = .int .i64 k ∧ Hid (∀ j, j < k → at_ xs j = at_ ys j) ∧ Below w.heap.size w wr) (fun _ i _ => n - (intOf i).toNat)
    case atStart => exact ⟨0, Nat.zero_le _, rfl, Lib.hid fun j hj => absurd hj (Nat.not_lt_zero _), Below.refl _ _⟩
    case round =>
      obtain ⟨k, hk, rfl, hgood, hb⟩ := hrel
      by_cases hlt : k < n
      · obtain ⟨b, off, rfl, c1⟩ := (HA.out.below hb).cells k (by have := HA.out.len; omega)
        obtain ⟨b', off', rfl, d1⟩ := (HA'.out.below hb).cells k (by have := HA'.out.len; omega)
        obtain ⟨x, HX⟩ : ∃ x, Hid (at_ xs k = x) := ⟨_, Lib.hid rfl⟩
        obtain ⟨y, HY⟩ : ∃ y, Hid (at_ ys k = y) := ⟨_, Lib.hid rfl⟩
        change wr.cell? _ = some (.string (at_ xs k)) at c1
        change wr.cell? _ = some (.string (at_ ys k)) at d1
        rw [HX.out] at c1
        rw [HY.out] at d1
        have hk0 : (0 : Int) ≤ (k : Int) := by omega
        have hk1 : (k : Int) < (n : Int) := by omega
        by_cases he : x = y
        · have HG : Hid (∀ j, j < k + 1 → at_ xs j = at_ ys j) := Lib.hid fun j hj => by
            by_cases e : j = k
            · rw [e, HX.out, HY.out]; exact he
            · exact hgood.out j (by omega)
          subst he
          have hq2 : (x.toList == x.toList) = true := by simp
          go_wp2
          go_quiet (fail)
          go_wp2
          go_roundw
          case rel => exact ⟨k + 1, by omega, by go_num, HG, below_drewN hb _⟩
          case measure => simp [intOf]; omega
        · have heq : (x.toList == y.toList) = false := (Lib.bytes_beq_false_iff _ _).2 he
          have HE : Hid (xs ≠ ys) := Lib.hid fun e => he (by rw [← HX.out, ← HY.out, e])
          clear he
          go_wp2
          go_quiet (fail)
          go_wp2
          go_ret
          exact ⟨by rw [decide_eq_false HE.out]; rfl, below_drewN hb _⟩
      · have HE : Hid (xs = ys) := Lib.hid (by
          have h1 := HA.out.len
          have h2 := HA'.out.len
          refine List.ext_getElem (by omega) fun j hj hj' => ?_
          have := hgood.out j (by omega)
          unfold at_ at this
          simpa [List.getD, List.getElem?_eq_getElem hj, List.getElem?_eq_getElem hj'] using this)
        go_wp2
        go_ret
        exact ⟨by rw [decide_eq_true HE.out]; rfl, hb⟩
  · have hq : ((n : Int) != n') = true := by rw [bne_iff_ne]; omega
    have HE : Hid (xs ≠ ys) := Lib.hid fun e => hl (by rw [HA.out.len, HA'.out.len, e])
    clear hl
    go_enter Tryz.func85, Tryz.ntmps85
    go_wp2
    go_ret
    exact ⟨by rw [decide_eq_false HE.out]; rfl, Below.refl _ _⟩

end Go.Proofs.YtohljainhkdiiaaGreatDoor
/- The members of a set, as the iterator yields them. -/
namespace Go.Proofs.YtohljainhkdiiaaGreatDoor
open Go.RowKit Go.Shelf Pl

theorem memL_next : ∀ x, x < 256 → x ≠ 0 → memL x = Lib.ctz 64 x :: memL (x &&& (x - 1)) ∧ x &&& (x - 1) < x := by decide +kernel
theorem memL_zero : memL 0 = [] := by decide
theorem memL_lt {x k : Nat} (h : k ∈ memL x) : k < 8 := by
  unfold memL at h
  rw [List.mem_filter, List.mem_range] at h
  exact h.1

/-- the table that math/bits looks up -/
def Tab (w : World) : Prop := TabAt 5 Lib.deBruijn64tab w
theorem Tab.below {w w' : World} (h : Tab w) (hb : Below w.heap.size w w') : Tab w' := fun j hj => (hb.cell (lt_of_cell (h j hj))).trans (h j hj)

set_option maxHeartbeats 400000 in
theorem tz64_core (x k idx : Nat) (w : World) (hx0 : ((x : Int) == 0) = false)
    (key : IntKind.u64.wrap (bits BinOp.and IntKind.u64 (x : Int) (IntKind.u64.wrap (-(x : Int))) * 285870213051353865) / 288230376151711744 = (idx : Int))
    (hi : idx < 64) (hk : k < 64) (hcell : w.cell? ⟨5, idx, none⟩ = some (.int .u8 k)) :
    Calls Tryz.prog 171 #[.int .u64 x] w fun e w' => e = .returned (.int .i64 k) ∧ w = w' := by
  go_enter Tryz.func171, Tryz.ntmps171
  go_wp2_with (simp only [key])
  go_ret
  exact ⟨rfl, rfl⟩
theorem tz64_any (x : Nat) (hx : x < 18446744073709551616) (h0 : x ≠ 0) (w : World) (hT : Tab w) :
    Calls Tryz.prog 171 #[.int .u64 x] w fun e w' => e = .returned (.int .i64 (Lib.ctz 64 x)) ∧ w = w' := by
  obtain ⟨hlow, hk⟩ := Lib.lowest_bit 64 x h0 hx
  obtain ⟨hi, htab⟩ := Lib.deBruijn64_at _ hk
  have hcell := hT _ hi
  rw [htab] at hcell
  exact tz64_core x _ _ w (by simp; omega) (tz64_key x _ hx h0 hlow) hi hk hcell
theorem tz_any (x : Nat) (hx : x < 18446744073709551616) (h0 : x ≠ 0) (w : World) (hT : Tab w) :
    Calls Tryz.prog 143 #[.int .u64 x] w fun e w' => e = .returned (.int .i64 (Lib.ctz 64 x)) ∧ w = w' := by
  have HT := Lib.hid hT
  clear hT
  go_enter Tryz.func143, Tryz.ntmps143
  go_wp2_with fail
  refine (tz64_any x hx h0 _ HT.out).mono ?_
  rintro e w' ⟨rfl, rfl⟩
  go_wp2
  go_ret
  exact ⟨rfl, rfl⟩

attribute [local go_sem] Oper.semAt_some

set_option maxRecDepth 100000 in
set_option maxHeartbeats 1000000 in
/-- the iterator that members makes -/
theorem members_iter (B C x : Nat) (hx : x < 256) (I : List Nat → World → Prop) (Ix : Code → List Nat → World → Prop)
    (hT : ∀ pre V, I pre V → Tab V) (hC : ∀ pre V, I pre V → V.cell? ⟨C, 0, none⟩ = some (.int .i64 x)) :
    IterOf Tryz.prog 142 #[.pointer (some ⟨C, 0, none⟩)] (fun k : Nat => #[.int .i64 k]) (fun pre k => pre ++ [k] <+: memL x) (fun xs => xs = memL x) B I Ix := by
  intro l Bk Bx W _ _ hY h0 hb0
  have hc0 := hC _ _ h0
  have HT := Lib.hid hT
  clear hT hC
  have HY := Lib.hid hY
  clear hY
  refine callsIn_of_wp Tryz.func142 rfl trivial ?_ rfl
  simp only [Tryz.ntmps142, List.size_toArray, List.length_cons, List.length_nil, Nat.reduceAdd, Nat.reduceSub, Array.replicate_succ, Array.replicate_zero, List.push_toArray, List.append_toArray, List.nil_append, List.cons_append]
  gi_wp2
  gi_loopw [3] (fun p V => ∃ (pre : List Nat) (r : Nat), p = .int .u64 r ∧ r < 256 ∧ Hid (memL x = pre ++ memL r) ∧ Hid (I pre V ∧ Bk V)) (fun p _ => (intOf p).toNat)
  case atStart => exact ⟨[], x, by simp, hx, Lib.hid rfl, Lib.hid ⟨h0, hb0⟩⟩
  case round =>
    obtain ⟨pre, r, rfl, hr, hm, hI⟩ := hrel
    by_cases hz : r = 0
    · subst hz
      gi_wp2
      go_end0
      exact ⟨⟨_, rfl⟩, .inl ⟨pre, (), by rw [hm.out, memL_zero, List.append_nil], hI.out.1, hI.out.2⟩⟩
    · obtain ⟨hn1, hn2⟩ := memL_next r hr hz
      have htz := Lib.hid (tz_any r (by omega) hz wr (HT.out _ _ hI.out.1))
      have hand := Lib.hid (bits_and_u64_nat r (r - 1) (by omega) (by omega))
      have hz' : ((r : Int) != 0) = true := by rw [bne_iff_ne]; omega
      obtain ⟨k, hk⟩ : ∃ k, Lib.ctz 64 r = k := ⟨_, rfl⟩
      obtain ⟨r', hr'⟩ : ∃ r', r &&& (r - 1) = r' := ⟨_, rfl⟩
      rw [hk] at hn1 htz
      rw [hr'] at hn1 hn2 hand
      have HM : Hid (memL x = (pre ++ [k]) ++ memL r') := Lib.hid (by rw [hm.out, hn1]; simp)
      clear hk hr' hn1 hz
      obtain ⟨fn, tmps, assign, body, hy, hR⟩ := HY.out () pre k wr hI.out.1 hI.out.2 ⟨memL r', HM.out.symm⟩
      gi_wp2_with (refine ⟨trivial, ?_⟩; gi_at_call 143; refine (callsIn_wide.2 htz.out).mono ?_; rintro e w' ⟨rfl, rfl⟩)
      refine hR.mono ?_
      rintro e W3 (⟨rfl, hI3, hb3⟩ | ⟨rfl, c, hx3, hb3⟩)
      · have hr1 : 1 ≤ (r : Int) := by omega
        gi_wp2
        go_roundw
        case rel => exact ⟨pre ++ [k], r', by rw [show (r : Int) - 1 = ((r - 1 : Nat) : Int) from by omega, hand.out], by omega, HM, Lib.hid ⟨hI3, hb3⟩⟩
        case measure => rw [show (r : Int) - 1 = ((r - 1 : Nat) : Int) from by omega, hand.out]; simp [intOf]; omega
      · gi_wp2
        refine bodyPost_ret (results_none rfl _ _ _) rfl ?_
        exact ⟨⟨_, rfl⟩, .inr ⟨_, c, hx3, hb3⟩⟩
end Go.Proofs.YtohljainhkdiiaaGreatDoor
/- slices.AppendSeq and slices.Collect at int, over an iterator that keeps what lay; act.List. -/
namespace Go.Proofs.YtohljainhkdiiaaGreatDoor
open Go.RowKit Go.Shelf Pl

theorem infoInt : (Tryz.prog.info? 3).map (fun i => (i.zero, i.size, i.bytes)) = some (some (.int .i64 0), 1, 8) := by kernel_rfl

attribute [local go_sem] Oper.semAt_some

/-- act.members: a value that captures the set's new box -/
theorem members_any (x : Int) (w : World) :
    Calls Tryz.prog 111 #[.int .i64 x] w fun e w' => e = .returned (.func (.func 142) #[] #[.pointer (some ⟨w.heap.size, 0, none⟩)]) ∧ w.alloc (.cells #[.int .i64 x] 3) = w' := by
  go_enter Tryz.func111, Tryz.ntmps111
  go_wp2
  go_ret
  exact ⟨rfl, rfl⟩

theorem memL_len (x : Nat) : (memL x).length ≤ 8 := by
  unfold memL
  exact Nat.le_trans (List.length_filter_le _ _) (by simp)
theorem prefix_len {x : Nat} {pre : List Nat} {k : Nat} (h : pre ++ [k] <+: memL x) : pre.length < 8 := by
  have h1 := h.length_le
  have h2 := memL_len x
  rw [List.length_append, List.length_singleton] at h1
  omega

/-- the code that the check of a set answers -/
def setCode (ss : List ByteArray) (xs : List Int) : Int := if actsB ss then (if xs.all (setB ss.length) then 0 else 1) else 10
theorem setsErr_code {w : World} {e0 e1 e2 : Addr} (E : Errs w e0 e1 e2) (ss : List ByteArray) (xs : List Int) :
    Calls Tryz.prog 101 #[setsErr e0 e1 ss xs] w fun e w' => e = .returned (.int .i64 (setCode ss xs)) ∧ w = w' := by
  unfold setsErr setCode
  cases actsB ss
  · exact code_acts w e0 e1 e2 E
  · cases xs.all (setB ss.length)
    · exact code_set w e0 e1 e2 E
    · exact code_nil w e0 e1 e2 E
theorem setsErr_iface (e0 e1 : Addr) {ss : List ByteArray} {xs : List Int} (h : setCode ss xs ≠ 0) : ∃ a, setsErr e0 e1 ss xs = .iface 289 (.pointer (some a)) := by
  unfold setCode at h
  unfold setsErr
  cases h1 : actsB ss
  · exact ⟨e0, rfl⟩
  · cases h2 : xs.all (setB ss.length)
    · exact ⟨e1, rfl⟩
    · rw [h1, h2] at h; simp at h
theorem set_ok {ss : List ByteArray} {xs : List Int} (hz : setCode ss xs = 0) : actsB ss = true ∧ xs.all (setB ss.length) = true := by
  unfold setCode at hz
  cases h1 : actsB ss
  · rw [h1] at hz; simp at hz
  · cases h2 : xs.all (setB ss.length)
    · rw [h1, h2] at hz; simp at hz
    · exact ⟨rfl, rfl⟩
theorem one_int (w : World) (x : Int) (t : TypeId) : IntArg (w.alloc (.cells #[.int .i64 x] t)) (some ⟨w.heap.size, 0, none⟩) 1 1 [x] :=
  ⟨(fun h => by cases h), rfl, Nat.le_refl _, by omega, fun j hj => ⟨w.heap.size, 0, rfl, by
    have : j = 0 := by simp at hj; omega
    subst this
    exact cell_first w (.int .i64 x) t⟩⟩
theorem set_lt {ss : List ByteArray} {x : Int} (h : actsB ss = true) (hx : [x].all (setB ss.length) = true) : 0 ≤ x ∧ x < 256 := by
  have h8 := ((actsB_iff ss).1 h).1
  rw [List.all_cons, List.all_nil, Bool.and_true, setB_iff] at hx
  have h1 : 2 ^ ss.length ≤ 2 ^ 8 := Nat.pow_le_pow_right (by decide) h8
  have h3 : ((2 ^ ss.length : Nat) : Int) = (2 : Int) ^ ss.length := by norm_cast
  omega

/-- what List answers -/
def listL (ss : List ByteArray) (x : Int) : List Nat := if setCode ss [x] = 0 then memL x.toNat else []

end Go.Proofs.YtohljainhkdiiaaGreatDoor
