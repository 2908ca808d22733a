/- Texts joined: Both, ShelfR, Rep, Split. -/
import Derived.Test.YtgnbkepdbdgkdaaGreatDoorJq02
import Derived.Test.YtgnbkepdbdgkdaaGreatDoorJq12
import Derived.Shelf.Strings.Builder1
import Derived.Shelf.Strings.Builder2
import Derived.Shelf.Strings.OnBuilder
import Derived.Shelf.Small.Bits
import Derived.Shelf.Small.Wraps
import Derived.Shelf.Strings.BuilderF
import Derived.Shelf.Strings.BuilderK
import Derived.Shelf.Strconv.Atoi
import Derived.Shelf.Strconv.Itoa0
import Derived.Shelf.Strconv.Itoa1
import Derived.Shelf.LaysM
import Derived.Shelf.Strconv.Itoa2
import Derived.Shelf.Strconv.Itoa3
import Derived.Shelf.Strconv.AtoiErrFast
import Derived.Shelf.Strconv.ParseIntEmpty
import Derived.Shelf.Strconv.AtoiFail
import Derived.Shelf.Strconv.Clone
import Derived.Shelf.Strconv.SyntaxError
import Derived.Shelf.LaysC
import Derived.Shelf.Strconv.ToError
import Derived.Shelf.Strconv.Lower
import Derived.Shelf.Strconv.ParseUint10
import Derived.Shelf.Strconv.ParseUint10Empty
import Derived.Shelf.Strconv.ParseUint10Any
import Derived.Shelf.Strconv.ParseInt10
import Derived.Shelf.Strconv.AtoiLong
import Derived.Shelf.Strconv.AtoiInnerAll
import Derived.Shelf.Strconv.RangeError
import Derived.Shelf.Strconv.ToErrorRange
import Derived.Shelf.Strconv.AtoiAll
import Derived.Shelf.Strconv.ErrVarAll
import Derived.Shelf.Strings.Search1
import Derived.Shelf.Strings.Search2
import Derived.Shelf.Strings.Search3
import Derived.Shelf.Strings.Count
import Derived.Shelf.Strings.Shaped
import Derived.Shelf.Strings.Prefix
import Derived.Shelf.Strings.Split
import Derived.Shelf.Bits.Mul64
import Derived.Shelf.Unicode.DecodeSlow
import Derived.Shelf.Slices.Turned
import Derived.Shelf.Slices.Reverse
import Derived.Shelf.Slices.Equal
import Derived.Ground.Names2Prog
import Derived.Shelf.Slices.Clone
import Derived.Shelf.Slices.Cells
import Derived.Shelf.Slices.Empties2
import Derived.Test.YtgnbkepdbdgkdaaGreatDoorProg
import Derived.Test.YtgnbkepdbdgkdaaGreatDoorJq11
import Derived.Laws.CopyOwn
import Derived.Laws.OwnMore
import Derived.Test.YtgnbkepdbdgkdaaGreatDoorJq03
import Derived.Test.YtgnbkepdbdgkdaaGreatDoorJq05
import Derived.Sort.LoopGhostIn
import Derived.Lib.IndexBytes
/- system.checkBoth: the error of two systems. -/
namespace Go.Proofs.YtgnbkepdbdgkdaaGreatDoor
open Go.RowKit Pl

def bothS (m m' : Syst) : Int := if sysB m = true then (if sysB m' = true then (if m.acts = m'.acts then 0 else 10) else 20) else 20
theorem bothS_zero {m m' : Syst} (h : bothS m m' = 0) : sysB m = true ∧ sysB m' = true ∧ m.acts = m'.acts := by
  unfold bothS at h
  split at h
  · rename_i h1
    split at h
    · rename_i h2
      split at h
      · rename_i h3
        exact ⟨h1, h2, h3⟩
      · cases h
    · cases h
  · cases h
set_option maxHeartbeats 1000000 in
theorem checkBoth_any {w : World} {a : Option Addr} {n c : Nat} {b : Option Addr} {k d : Nat} {m : Syst} {a' : Option Addr} {n' c' : Nat} {b' : Option Addr} {k' d' : Nat} {m' : Syst} {e0 e1 e2 : Addr} (E : Errs w e0 e1 e2) (A : SysArg w a n c b k d m) (A' : SysArg w a' n' c' b' k' d' m') :
    Calls Tryz.prog 53 #[.agg #[.slice a n c, .slice b k d], .agg #[.slice a' n' c', .slice b' k' d']] w fun e w' => e = .returned (.int .i64 (bothS m m')) ∧ Below w.heap.size w w' := by
  have hB := (Below.refl w.heap.size w).alloc (Nat.le_refl _) (.cells #[.slice a n c, .slice b k d] 25)
  have hB2 := hB.alloc (by simp) (.cells #[.slice a' n' c', .slice b' k' d'] 25)
  have hW1 := (Whole.new w 25 #[.slice a n c, .slice b k d]).alloc (.cells #[.slice a' n' c', .slice b' k' d'] 25)
  have hW2 := Whole.new (w.alloc (.cells #[.slice a n c, .slice b k d] 25)) 25 #[.slice a' n' c', .slice b' k' d']
  simp only [World.size_alloc] at hW2
  obtain ⟨w0, HW0⟩ : ∃ z, Hid ((w.alloc (.cells #[.slice a n c, .slice b k d] 25)).alloc (.cells #[.slice a' n' c', .slice b' k' d'] 25) = z) := ⟨_, Lib.hid rfl⟩
  rw [HW0.out] at hB2 hW1 hW2
  have HC := Lib.hid (SCheck_any (E.below hB2) (A.below hB2))
  have HB0 := Lib.hid hB2
  have HW1 := Lib.hid hW1
  have HW2 := Lib.hid hW2
  have HE := Lib.hid (E.below hB2)
  have HA := Lib.hid (A.below hB2)
  have HA' := Lib.hid (A'.below hB2)
  have q0 := hW1.cell 0
  have q1 := hW1.cell 1
  have p0 := hW2.cell 0
  have p1 := hW2.cell 1
  simp only [List.getElem?_toArray, List.getElem?_cons_succ, List.getElem?_cons_zero] at q0 q1 p0 p1
  clear hB hB2 hW1 hW2 A A' E
  cases hm : sysB m
  · have HR : Hid (bothS m m' = 20) := Lib.hid (by unfold bothS; rw [hm]; rfl)
    have HK : Hid (chk m = 20) := Lib.hid (by unfold chk; rw [hm]; rfl)
    clear hm
    go_enter Tryz.func53, Tryz.ntmps53
    go_wp2_with fail
    rw [HW0.out]
    refine HC.out.mono ?_
    rw [HK.out]
    rintro e w1 ⟨rfl, hb1⟩
    have HB1 := Lib.hid (HB0.out.trans (hb1.mono HB0.out.size))
    clear hb1
    go_wp2
    go_ret
    exact ⟨by rw [HR.out]; rfl, HB1.out⟩
  · have HK : Hid (chk m = 0) := Lib.hid (by unfold chk; rw [hm]; rfl)
    cases hm' : sysB m'
    · have HR : Hid (bothS m m' = 20) := Lib.hid (by unfold bothS; rw [hm, hm']; rfl)
      have HK' : Hid (chk m' = 20) := Lib.hid (by unfold chk; rw [hm']; rfl)
      clear hm hm'
      go_enter Tryz.func53, Tryz.ntmps53
      go_wp2_with fail
      rw [HW0.out]
      refine HC.out.mono ?_
      rw [HK.out]
      rintro e w1 ⟨rfl, hb1⟩
      have HB1 := Lib.hid (HB0.out.trans (hb1.mono HB0.out.size))
      have HC2 := Lib.hid (SCheck_any (HE.out.below hb1) (HA'.out.below hb1))
      have r0 := up_cell hb1 p0
      have r1 := up_cell hb1 p1
      clear hb1
      go_wp2_with fail
      refine HC2.out.mono ?_
      rw [HK'.out]
      rintro e w2 ⟨rfl, hb2⟩
      have HB2 := Lib.hid (HB1.out.trans (hb2.mono HB1.out.size))
      clear hb2
      go_wp2
      go_ret
      exact ⟨by rw [HR.out]; rfl, HB2.out⟩
    · have HK' : Hid (chk m' = 0) := Lib.hid (by unfold chk; rw [hm']; rfl)
      have HR : Hid (bothS m m' = if m.acts = m'.acts then 0 else 10) := Lib.hid (by unfold bothS; rw [hm, hm']; rfl)
      clear hm hm'
      go_enter Tryz.func53, Tryz.ntmps53
      go_wp2_with fail
      rw [HW0.out]
      refine HC.out.mono ?_
      rw [HK.out]
      rintro e w1 ⟨rfl, hb1⟩
      have HB1 := Lib.hid (HB0.out.trans (hb1.mono HB0.out.size))
      have HC2 := Lib.hid (SCheck_any (HE.out.below hb1) (HA'.out.below hb1))
      have r0 := up_cell hb1 p0
      have r1 := up_cell hb1 p1
      have s0 := up_cell hb1 q0
      have HA1 := Lib.hid (HA.out.below hb1)
      have HA1' := Lib.hid (HA'.out.below hb1)
      clear hb1
      go_wp2_with fail
      refine HC2.out.mono ?_
      rw [HK'.out]
      rintro e w2 ⟨rfl, hb2⟩
      have HB2 := Lib.hid (HB1.out.trans (hb2.mono HB1.out.size))
      have HQ := Lib.hid (eqStr_any (HA1.out.acts.below hb2) (HA1'.out.acts.below hb2))
      have u0 := up_cell hb2 r0
      have u1 := up_cell hb2 s0
      clear hb2
      by_cases ha : m.acts = m'.acts
      · rw [decide_eq_true ha] at HQ
        rw [if_pos ha] at HR
        clear ha
        go_wp2_with fail
        refine HQ.out.mono ?_
        rintro e w3 ⟨rfl, hb3⟩
        have HB3 := Lib.hid (HB2.out.trans (hb3.mono HB2.out.size))
        clear hb3
        go_wp2
        go_ret
        exact ⟨by rw [HR.out]; rfl, HB3.out⟩
      · rw [decide_eq_false ha] at HQ
        rw [if_neg ha] at HR
        clear ha
        go_wp2_with fail
        refine HQ.out.mono ?_
        rintro e w3 ⟨rfl, hb3⟩
        have HB3 := Lib.hid (HB2.out.trans (hb3.mono HB2.out.size))
        clear hb3
        go_wp2
        go_ret
        exact ⟨by rw [HR.out]; rfl, HB3.out⟩
end Go.Proofs.YtgnbkepdbdgkdaaGreatDoor
/- Contracts of the functions of package strings that package act calls, at this seat's numbers. -/
namespace Go.Proofs
open Go.Shelf
def Tryz.lays212_ren : Go.Shelf.Ren := ⟨fun | 212 => 106 | 263 => 138 | 264 => 139 | n => n, fun | 46 => 103 | 51 => 220 | 146 => 227 | 53 => 222 | 148 => 229 | n => n, fun | n => n⟩
theorem Tryz.lays212 : Go.Proofs.Lays.n212 Tryz.prog Tryz.lays212_ren := {
  mixed := by kernel_rfl
  f212 := Tryz.func106.trans (congrArg some (by kernel_rfl))
  f263 := Tryz.func138.trans (congrArg some (by kernel_rfl))
  f264 := Tryz.func139.trans (congrArg some (by kernel_rfl))
  t46 := Tryz.underlying103
  a46 := Tryz.isAgg103
  z46 := Tryz.sizeOf103
  v46 := Tryz.zeroValue103
  t51 := Tryz.underlying220
  a51 := Tryz.isAgg220
  z51 := Tryz.sizeOf220
  v51 := Tryz.zeroValue220
  t53 := Tryz.underlying222
  a53 := Tryz.isAgg222
  z53 := Tryz.sizeOf222
  v53 := Tryz.zeroValue222
  t146 := Tryz.underlying227
  a146 := Tryz.isAgg227
  z146 := Tryz.sizeOf227
  v146 := Tryz.zeroValue227
  t148 := Tryz.underlying229
  a148 := Tryz.isAgg229
  z148 := Tryz.sizeOf229
  v148 := Tryz.zeroValue229 }
open Go.RowKit Go.Lib in
theorem Tryz.bits_Mul (x y : Nat) (hx : x < 18446744073709551616) (hy : y < 18446744073709551616) (w : World) :
    Calls Tryz.prog 106 #[.int .u64 x, .int .u64 y] w fun e w' => e = .returned (.tuple #[.int .u64 ((x * y / 18446744073709551616 : Nat) : Int), .int .u64 ((x * y % 18446744073709551616 : Nat) : Int)]) ∧ w' = w := Any.bits_Mul Tryz.lays212 x y hx hy w
end Go.Proofs
/- slices.Repeat of one number. -/
namespace Go.Proofs.YtgnbkepdbdgkdaaGreatDoor
open Go.RowKit Pl

theorem row_exact {w : World} {base g n : Nat} {e : TypeId} {xs : List Value} (h : w.ownsRow base e 1 (.slice (some ⟨g, 0, none⟩) n n) n xs) : w.heap[g]? = some (.cells xs.toArray e (0, 0)) := by
  rcases h.2 with ⟨h', _⟩ | ⟨g', cap, cur, h', hb, hg, hnc, hcm, hcs, ht⟩
  · simp at h'
  · simp only [Value.slice.injEq, Option.some.injEq, Addr.mk.injEq, and_true, true_and] at h'
    obtain ⟨rfl, rfl⟩ := h'
    rw [List.take_of_length_le (by rw [Array.length_toList, hcs]; exact Nat.le_refl _)] at ht
    rw [hg, ← ht]
theorem row_known {w : World} {base g n : Nat} {e : TypeId} {xs : List Value} (h : w.heap[g]? = some (.cells xs.toArray e (0, 0))) (hb : base ≤ g) (hx : xs.length = n) (hm : n ≤ maxLen) : w.ownsRow base e 1 (.slice (some ⟨g, 0, none⟩) n n) n xs :=
  ⟨by omega, .inr ⟨g, n, xs.toArray, rfl, hb, h, Nat.le_refl _, hm, by simp [hx], by rw [Nat.mul_one]; exact List.take_of_length_le (Nat.le_of_eq (by simpa using hx))⟩⟩
theorem cutLo_run (B n m : Nat) (h : m < n) (w' : World) : (Instr.slice 28 (.slice (some ⟨B, 0, none⟩) n n) (some (.int .i64 m)) none none).run Tryz.prog w' = .ok (.slice (some ⟨B, m, none⟩) (n - m) (n - m)) w' := by
  have h1 : (0 : Int) ≤ m := by omega
  have h2 : (m : Int) ≤ n := by omega
  have h3 : ¬ n = m := by omega
  have e : (⟨B, 0, none⟩ : Addr).add m = ⟨B, m, none⟩ := by rw [add_plainly, Nat.zero_add]
  go_simp
theorem cutHi_run (B n m : Nat) (h : m < n) (h0 : 0 < n) (w' : World) : (Instr.slice 28 (.slice (some ⟨B, 0, none⟩) n n) none (some (.int .i64 m)) none).run Tryz.prog w' = .ok (.slice (some ⟨B, 0, none⟩) m n) w' := by
  have h1 : (0 : Int) ≤ m := by omega
  have h2 : (m : Int) ≤ n := by omega
  have h3 : ¬ n = 0 := by omega
  have e : (⟨B, 0, none⟩ : Addr).add 0 = ⟨B, 0, none⟩ := by rw [add_plainly]
  go_simp
theorem splice_rep (x z : Value) (m n k : Nat) (h : m + k ≤ n) : splice (List.replicate m x ++ List.replicate (n - m) z) m (List.replicate k x) = List.replicate (m + k) x ++ List.replicate (n - (m + k)) z := by
  unfold splice
  rw [List.take_append_of_le_length (by simp), List.take_of_length_le (by simp), List.length_replicate, List.drop_append, List.drop_of_length_le (by simp), List.nil_append, List.length_replicate, List.drop_replicate, ← List.append_assoc, List.replicate_append_replicate]
  congr 2
  omega

set_option maxRecDepth 100000 in
set_option maxHeartbeats 1000000 in
theorem Repeat_any {w : World} {g c n : Nat} {x : Int} (hn : n ≤ 1000000) (hsrc : w.cell? ⟨g, 0, none⟩ = some (.int .i64 x)) :
    Calls Tryz.prog 71 #[.slice (some ⟨g, 0, none⟩) 1 c, .int .i64 n] w fun e w' => e = .returned (.slice (some ⟨w.heap.size, 0, none⟩) n n) ∧ w'.ownsRow w.heap.size 3 1 (.slice (some ⟨w.heap.size, 0, none⟩) n n) n ((List.replicate n x).map (Value.int .i64)) ∧ Below w.heap.size w w' := by
  obtain ⟨i1, hi1, hz10, hz11, hz12⟩ := info_parts infoNumS
  have hsz : (Tryz.prog.info? 3).map (·.size) = some 1 := by rw [hi1]; simp [hz11]
  have HS := Lib.hid hsrc
  have HM := Tryz.bits_Mul 1 n (by omega) (by omega) w
  rw [show 1 * n / 18446744073709551616 = 0 by omega, show 1 * n % 18446744073709551616 = n by omega] at HM
  have HM := Lib.hid HM
  have hw1 : IntKind.i64.wrap (n : Int) = n := IntWalk.i64_in _ (by omega)
  have hw2 : IntKind.u64.wrap (n : Int) = n := by rw [IntKind.wrap_u64]; omega
  have hn0 : ¬ (n : Int) < 0 := by omega
  have hbig : ¬ (9223372036854775807 : Int) < n := by omega
  clear hsrc
  go_enter Tryz.func71, Tryz.ntmps71
  go_wp2_with fail
  refine HM.out.mono ?_
  rintro e w' ⟨rfl, rfl⟩
  go_wp2_with (at_make; refine wpList_make_full _ rfl _ _ 28 rfl w'.heap.size 3 i1 (.int .i64 0) 1 Tryz.underlying28 hi1 hz10 hz11 .i64 .i64 n n n rfl rfl rfl rfl (by rw [hz12]; omega) (by unfold maxLen; omega) (Nat.le_refl _) ?_; intro w1 hrow hg1; refine Hid.out ?_)
  refine Lib.hid ?_
  have e0 : (madeCells (Value.int .i64 0).cells (n * 1)).toList = List.replicate n (Value.int .i64 0) := by
    refine List.ext_getElem (by simp [madeCells]) fun i h1 h2 => ?_
    simp [madeCells, Value.cells, Nat.mod_one]
  rw [e0] at hrow
  have hb1 : Below w'.heap.size w' w1 := (Below.refl _ w').grown hg1 (Nat.le_refl _) (fun k hk => by cases hk)
  have hR1 := row_exact hrow
  have hz1 : w'.heap.size < w1.heap.size := (hrow.lt _ rfl).2
  have HB1 := Lib.hid hb1
  have HR1 := Lib.hid hR1
  have k0 : w1.cell? ⟨g, 0, none⟩ = some (.int .i64 x) := (hb1.cell (lt_of_cell HS.out)).trans HS.out
  have HK0 := Lib.hid k0
  clear hb1 hR1 hrow hg1 k0 e0 HM
  by_cases h0 : n = 0
  · subst h0
    go_wp2_with (with_reducible refine wpList_copy_nothing rfl (.tmp 31) (.tmp 32) 28 28 rfl 3 Tryz.underlying28 hsz _ _ 0 0 1 c rfl rfl rfl ?_; refine Hid.out ?_)
    refine Lib.hid ?_
    go_wp2
    go_loopw [8] (fun m wr => m = .int .i64 0 ∧ wr = w1) (fun _ _ => 0)
    case atStart => exact ⟨rfl, rfl⟩
    case round =>
      obtain ⟨rfl, rfl⟩ := hrel
      go_wp2
      go_ret
      exact ⟨rfl, row_known HR1.out (Nat.le_refl _) rfl (by decide), HB1.out⟩
  · have hpos : 0 < n := by omega
    have hw1g : Hid (∀ j v, [Value.int .i64 x][j]? = some v → w1.cell? ((⟨g, 0, none⟩ : Addr).add j) = some v) := Lib.hid fun j v hv => by
      have hj : j < 1 := by simpa using (List.getElem?_eq_some_iff.1 hv).1
      obtain rfl : j = 0 := by omega
      rw [add_plainly, HK0.out, ← hv]; rfl
    have hmin : ([Value.int .i64 x] : List Value).length = Nat.min 1 n := (Nat.min_eq_left hpos).symm
    have hfit : 0 + ([Value.int .i64 x] : List Value).length ≤ (List.replicate n (Value.int .i64 0)).length := by simp; omega
    have hone : ∀ v ∈ [Value.int .i64 x], v.oneCell' = true := by simp [Value.oneCell']
    have hps : 0 < ([Value.int .i64 x] : List Value).length → some (⟨w'.heap.size, 0, none⟩ : Addr) = some ⟨w'.heap.size, 0, none⟩ ∧ ∃ ad, some (⟨g, 0, none⟩ : Addr) = some ad ∧ ∀ j v, [Value.int .i64 x][j]? = some v → w1.cell? (ad.add j) = some v := fun _ => ⟨rfl, _, rfl, hw1g.out⟩
    go_wp2_with (with_reducible refine wpList_copy_splice rfl (.tmp 31) (.tmp 32) 28 28 rfl 3 Tryz.underlying28 hsz _ _ n n 1 c rfl rfl w'.heap.size 0 (List.replicate n (Value.int .i64 0)) 3 HR1.out [.int .i64 x] hmin hps hfit hone w'.heap.size w' HB1.out (Nat.le_refl _) ?_; intro w2 hg2 hb2; refine Hid.out ?_)
    refine Lib.hid ?_
    have e1 : splice (List.replicate n (Value.int .i64 0)) 0 [.int .i64 x] = List.replicate 1 (Value.int .i64 x) ++ List.replicate (n - 1) (Value.int .i64 0) := by
      have := splice_rep (.int .i64 x) (.int .i64 0) 0 n 1 (by omega)
      simpa using this
    have HG2 : Hid (w2.heap[w'.heap.size]? = some (.cells (List.replicate 1 (Value.int .i64 x) ++ List.replicate (n - 1) (Value.int .i64 0)).toArray 3 (0, 0))) := Lib.hid (by rw [← e1]; exact hg2.out)
    clear hg2 e1
    have HB2 := Lib.hid hb2
    clear hb2
    have hmn : Nat.min 1 n = 1 := Nat.min_eq_left hpos
    have hdec : decide ((9223372036854775807 : Int) < n) = false := decide_eq_false (by omega)
    go_wp2
    simp only [hmn, hdec]
    go_loopw [8] (fun m wr => ∃ M : Nat, m = .int .i64 M ∧ 1 ≤ M ∧ M ≤ n ∧ Hid (wr.heap[w'.heap.size]? = some (.cells (List.replicate M (Value.int .i64 x) ++ List.replicate (n - M) (Value.int .i64 0)).toArray 3 (0, 0))) ∧ Hid (Below w'.heap.size w' wr)) (fun m _ => n - (intOf m).toNat)
    case atStart => exact ⟨1, rfl, by omega, by omega, HG2, HB2⟩
    case round =>
      obtain ⟨M, rfl, hM1, hM2, hg, hb⟩ := hrel
      by_cases hlt : M < n
      · have hc1 := fun V => cutLo_run w'.heap.size n M hlt V
        have hc2 := fun V => cutHi_run w'.heap.size n M hlt hpos V
        obtain ⟨K, hK⟩ : ∃ K, K = Nat.min M (n - M) := ⟨_, rfl⟩
        have hK1 : 0 < K := by rw [hK]; exact Nat.lt_min.2 ⟨by omega, by omega⟩
        have hK2 : K ≤ M := by rw [hK]; exact Nat.min_le_left _ _
        have hK3 : K ≤ n - M := by rw [hK]; exact Nat.min_le_right _ _
        have hsrc2 : Hid (∀ j v, (List.replicate K (Value.int .i64 x))[j]? = some v → wr.cell? ((⟨w'.heap.size, 0, none⟩ : Addr).add j) = some v) := Lib.hid fun j v hv => by
          have hj : j < K := by simpa using (List.getElem?_eq_some_iff.1 hv).1
          have h9 := cell_of_row wr w'.heap.size (0 + j) _ _ _ hg.out
          rw [add_plainly, h9, ← hv]
          simp [List.getElem?_append_left, hj, show j < M by omega]
        have HWR : Hid (IntKind.i64.wrap ((M : Int) + K) = (M : Int) + K) := Lib.hid (IntWalk.i64_in _ (by omega))
        have hmin2 : (List.replicate K (Value.int .i64 x)).length = Nat.min M (n - M) := by rw [List.length_replicate]; exact hK
        have hfit2 : M + (List.replicate K (Value.int .i64 x)).length ≤ (List.replicate M (Value.int .i64 x) ++ List.replicate (n - M) (Value.int .i64 0)).length := by simp; omega
        have hone2 : ∀ v ∈ List.replicate K (Value.int .i64 x), v.oneCell' = true := fun v hv => by rw [List.eq_of_mem_replicate hv]; rfl
        have HSR0 := hsrc2.out
        have HMN := Lib.hid hmin2
        have HFT := Lib.hid hfit2
        have HON := Lib.hid hone2
        obtain ⟨L, HL⟩ : ∃ L, Hid (List.replicate M (Value.int .i64 x) ++ List.replicate (n - M) (Value.int .i64 0) = L) := ⟨_, Lib.hid rfl⟩
        obtain ⟨C, HC⟩ : ∃ C, Hid (List.replicate K (Value.int .i64 x) = C) := ⟨_, Lib.hid rfl⟩
        rw [HL.out] at hg
        rw [HL.out, HC.out] at HFT
        rw [HC.out] at HMN HON HSR0
        have HGd : Hid (wr.drew.heap[w'.heap.size]? = some (.cells L.toArray 3 (0, 0))) := Lib.hid hg.out
        have HBd : Hid (Below w'.heap.size w' wr.drew) := Lib.hid hb.out.drew
        have HSR : Hid (∀ j v, C[j]? = some v → wr.drew.cell? ((⟨w'.heap.size, 0, none⟩ : Addr).add j) = some v) := Lib.hid HSR0
        clear HSR0
        have HCl : Hid (C.length = K) := Lib.hid (by rw [← HC.out, List.length_replicate])
        clear hK hmin2 hfit2 hone2 hsrc2
        go_wp2
        go_region_law (first | (refine step_copy_splice rfl (.tmp 41) (.tmp 44) 28 28 rfl 3 Tryz.underlying28 hsz (some ⟨w'.heap.size, M, none⟩) (some ⟨w'.heap.size, 0, none⟩) (n - M) (n - M) M n (by go_simp) (by go_simp) w'.heap.size M L 3 HGd.out C HMN.out (fun _ => ⟨rfl, _, rfl, HSR.out⟩) HFT.out HON.out w'.heap.size w' HBd.out (Nat.le_refl _) ?_; intro w4 hg4 hb4))
        rw [HCl.out]
        try simp only [goInt]
        rw [HWR.out]
        have HSp : Hid (splice L M C = List.replicate (M + K) (Value.int .i64 x) ++ List.replicate (n - (M + K)) (Value.int .i64 0)) := Lib.hid (by rw [← HL.out, ← HC.out]; exact splice_rep _ _ M n K (by omega))
        rw [HSp.out] at hg4
        have HB4 := Lib.hid hb4
        clear hb4
        go_simp
        go_wp2
        go_roundw
        case rel => exact ⟨.int .i64 ((M : Int) + K), _, _, _, _, _, _, _, _, _, _, _, _, _, ⟨M + K, by go_num, by omega, by omega, hg4, HB4⟩, rfl⟩
        case measure => simp [intOf]; omega
      · have e : M = n := by omega
        subst e
        have HF : Hid (wr.heap[w'.heap.size]? = some (.cells ((List.replicate M x).map (Value.int .i64)).toArray 3 (0, 0))) := Lib.hid (by
          rw [hg.out, Nat.sub_self, List.map_replicate]; simp)
        go_wp2
        go_ret
        exact ⟨rfl, row_known HF.out (Nat.le_refl _) (by simp) (by unfold maxLen; omega), hb.out⟩
end Go.Proofs.YtgnbkepdbdgkdaaGreatDoor
/- strings.SplitSeq at a comma, as an iterator. -/
namespace Go.Proofs.YtgnbkepdbdgkdaaGreatDoor
open Go.RowKit Go.Shelf Pl

def partsB (r : ByteArray) : List ByteArray := (parts r.data.toList).map mk
theorem mk_extract (r : ByteArray) (i j : Nat) (l : List UInt8) (h : (r.extract i j).data.toList = l) : mk l = r.extract i j := by
  rw [← h]; exact mk_of _
theorem partsB_none {r : ByteArray} (h : Lib.indexByte r.data.toList 44 < 0) : partsB r = [r] := by
  unfold partsB
  rw [parts_none _ h, List.map_singleton, mk_of]
theorem partsB_some {r : ByteArray} {i : Nat} (h : Lib.indexByte r.data.toList 44 = i) : i < r.size ∧ partsB r = r.extract 0 i :: partsB (r.extract (i + 1) r.size) := by
  obtain ⟨h1, h2⟩ := parts_some _ _ h
  refine ⟨by rw [Lib.size_eq]; exact h1, ?_⟩
  unfold partsB
  rw [h2, List.map_cons]
  congr 1
  · refine mk_extract _ _ _ _ ?_
    simp
  · have e : (r.extract (i + 1) r.size).data.toList = r.data.toList.drop (i + 1) := Lib.extract_to_end r (i + 1)
    rw [e]

attribute [local go_sem] Oper.semAt_some

set_option maxRecDepth 100000 in
set_option maxHeartbeats 2000000 in
/-- the iterator that SplitSeq(s0, ",") makes: its three captured cells at C0 (the comma), C1 (what is left), C2 (0) -/
theorem split_iter (B C0 C1 C2 : Nat) (s0 : ByteArray) (hs0 : s0.size ≤ 9223372036854775807) (I : ByteArray → List ByteArray → World → Prop) (Ix : Code → List ByteArray → World → Prop)
    (h0 : ∀ r pre V, I r pre V → V.cell? ⟨C0, 0, none⟩ = some (.string ⟨#[44]⟩)) (h1 : ∀ r pre V, I r pre V → V.cell? ⟨C1, 0, none⟩ = some (.string r)) (h1f : ∀ r pre V, I r pre V → V.frozen? ⟨C1, 0, none⟩ = false) (h2 : ∀ r pre V, I r pre V → V.cell? ⟨C2, 0, none⟩ = some (.int .i64 0))
    (hst : ∀ r r' pre V, I r pre V → I r' pre (V.setCell ⟨C1, 0, none⟩ (.string r'))) :
    IterG Tryz.prog 226 #[.pointer (some ⟨C0, 0, none⟩), .pointer (some ⟨C1, 0, none⟩), .pointer (some ⟨C2, 0, none⟩)] (fun p : ByteArray => #[.string p]) (fun pre x => pre ++ [x] <+: partsB s0) (fun xs => xs = partsB s0) B I Ix s0 := by
  intro l Bk Bx W hBk _ hY hI0 hb0
  have k0 := h0 _ _ _ hI0
  have H0 := Lib.hid h0
  have H1 := Lib.hid h1
  have H1f := Lib.hid h1f
  have H2 := Lib.hid h2
  have HS := Lib.hid hst
  have HB := Lib.hid hBk
  have HY := Lib.hid hY
  clear h0 h1 h2 h1f hst hBk hY
  refine callsIn_of_wp Tryz.func226 rfl trivial ?_ rfl
  simp only [Tryz.ntmps226, List.size_toArray, List.length_cons, List.length_nil, Nat.reduceAdd, Nat.reduceSub, Array.replicate_succ, Array.replicate_zero, List.push_toArray, List.append_toArray, List.nil_append, List.cons_append]
  gi_wp2
  gi_loopg [7, 8] s0.size (fun k _ _ V => ∃ (pre : List ByteArray) (r : ByteArray), r.size ≤ k ∧ r.size ≤ 9223372036854775807 ∧ Hid (partsB s0 = pre ++ partsB r) ∧ Hid (I r pre V ∧ Bk V))
  case atStart => exact ⟨[], s0, Nat.le_refl _, hs0, Lib.hid rfl, Lib.hid ⟨hI0, hb0⟩⟩
  case round =>
    obtain ⟨pre, r, hk, hr, hm, hI⟩ := hrel
    have c0 := H0.out _ _ _ hI.out.1
    have c1 := H1.out _ _ _ hI.out.1
    have c2 := H2.out _ _ _ hI.out.1
    have HX := Lib.hid (Tryz.strings_Index_one r 44 wr)
    have hg := Lib.indexByte_ge r.data.toList 44
    by_cases hneg : Lib.indexByte r.data.toList 44 < 0
    · have hp := partsB_none hneg
      obtain ⟨i, hi⟩ : ∃ i, Lib.indexByte r.data.toList 44 = i := ⟨_, rfl⟩
      rw [hi] at HX hneg
      have HM : Hid (partsB s0 = pre ++ [r]) := Lib.hid (by rw [hm.out, hp])
      clear hp hi hg
      obtain ⟨fn, tmps, assign, body, hy, hR⟩ := HY.out r pre r wr hI.out.1 hI.out.2 ⟨[], by rw [HM.out, List.append_nil]⟩
      gi_wp2_with (refine ⟨trivial, ?_⟩; gi_at_call 177; refine (callsIn_wide.2 HX.out).mono ?_; rintro e w' ⟨rfl, rfl⟩)
      refine hR.mono ?_
      rintro e W3 (⟨rfl, hI3, hb3⟩ | ⟨rfl, c, hx3, hb3⟩)
      · gi_wp2
        go_end0
        exact ⟨⟨_, rfl⟩, .inl ⟨_, r, HM.out.symm, hI3, hb3⟩⟩
      · gi_wp2
        go_end0
        exact ⟨⟨_, rfl⟩, .inr ⟨_, c, hx3, hb3⟩⟩
    · obtain ⟨i, hi⟩ := Int.eq_ofNat_of_zero_le (show 0 ≤ Lib.indexByte r.data.toList 44 by omega)
      obtain ⟨hlt, hp⟩ := partsB_some hi
      rw [hi] at HX
      have HM : Hid (partsB s0 = (pre ++ [r.extract 0 i]) ++ partsB (r.extract (i + 1) r.size)) := Lib.hid (by rw [hm.out, hp]; simp)
      have HZ : Hid ((r.extract (i + 1) r.size).size = r.size - (i + 1)) := Lib.hid (by simp)
      clear hp hi hneg hg
      obtain ⟨fn, tmps, assign, body, hy, hR⟩ := HY.out r pre (r.extract 0 i) wr hI.out.1 hI.out.2 ⟨_, HM.out.symm⟩
      gi_wp2_with (refine ⟨trivial, ?_⟩; gi_at_call 177; refine (callsIn_wide.2 HX.out).mono ?_; rintro e w' ⟨rfl, rfl⟩)
      refine hR.mono ?_
      rintro e W3 (⟨rfl, hI3, hb3⟩ | ⟨rfl, c, hx3, hb3⟩)
      · have d0 := H0.out _ _ _ hI3
        have d1 := H1.out _ _ _ hI3
        have d1f := H1f.out _ _ _ hI3
        gi_wp2
        gi_roundg (gk - 1)
        case rel => exact ⟨pre ++ [r.extract 0 i], r.extract (i + 1) r.size, by rw [HZ.out]; omega, by rw [HZ.out]; omega, HM, Lib.hid ⟨HS.out _ _ _ _ hI3, HB.out _ _ hb3 (Stays.setCell _ _ _ _)⟩⟩
        case measure => omega
      · gi_wp2
        refine bodyPost_ret (results_none rfl _ _ _) rfl ?_
        exact ⟨⟨_, rfl⟩, .inr ⟨_, c, hx3, hb3⟩⟩

theorem splitSeq_any (s : ByteArray) (w : World) :
    Calls Tryz.prog 222 #[.string s, .string ⟨#[44]⟩, .int .i64 0] w fun e w' => e = .returned (.func (.func 226) #[] #[.pointer (some ⟨w.heap.size + 1, 0, none⟩), .pointer (some ⟨w.heap.size, 0, none⟩), .pointer (some ⟨w.heap.size + 1 + 1, 0, none⟩)]) ∧
      ((w.alloc (.cells #[.string s] 9)).alloc (.cells #[.string ⟨#[44]⟩] 9)).alloc (.cells #[.int .i64 0] 3) = w' := by
  go_enter Tryz.func222, Tryz.ntmps222
  go_wp2
  go_ret
  exact ⟨rfl, rfl⟩
theorem SplitSeq_any (s : ByteArray) (w : World) :
    Calls Tryz.prog 215 #[.string s, .string ⟨#[44]⟩] w fun e w' => e = .returned (.func (.func 226) #[] #[.pointer (some ⟨w.heap.size + 1, 0, none⟩), .pointer (some ⟨w.heap.size, 0, none⟩), .pointer (some ⟨w.heap.size + 1 + 1, 0, none⟩)]) ∧
      ((w.alloc (.cells #[.string s] 9)).alloc (.cells #[.string ⟨#[44]⟩] 9)).alloc (.cells #[.int .i64 0] 3) = w' := by
  go_enter Tryz.func215, Tryz.ntmps215
  go_wp2_with fail
  refine (splitSeq_any s _).mono ?_
  rintro e w' ⟨rfl, rfl⟩
  go_wp2
  go_ret
  exact ⟨rfl, rfl⟩

/-- 'actions[nx:]' -/
theorem slice_run (a : Option Addr) (n c nx : Nat) (h : nx ≤ n) (w' : World) : (Instr.slice 22 (.slice a n c) (some (.int .i64 nx)) none none).run Tryz.prog w' = .ok (.slice (if c = nx then a else a.map fun x => x.add nx) (n - nx) (c - nx)) w' := by
  have h1 : (0 : Int) ≤ nx := by omega
  have h2 : (nx : Int) ≤ n := by omega
  go_simp
theorem slice_from (a : Option Addr) (n c nx : Nat) (ss : List ByteArray) (w : World) (hn : n = ss.length) (h : nx ≤ n) (hcap : n ≤ c) (hc : StrsIn w a ss) :
    ∃ a', (∀ w', (Instr.slice 22 (.slice a n c) (some (.int .i64 nx)) none none).run Tryz.prog w' = .ok (.slice a' (n - nx) (c - nx)) w') ∧ StrsIn w a' (ss.drop nx) := by
  refine ⟨_, slice_run a n c nx h, fun j hj => ?_⟩
  rw [List.length_drop] at hj
  obtain ⟨b, off, rfl, hcell⟩ := hc (nx + j) (by omega)
  have e : (ss.drop nx).getD j ByteArray.empty = ss.getD (nx + j) ByteArray.empty := by simp [List.getD]
  rw [e, if_neg (by omega)]
  by_cases hz : nx = 0
  · subst hz
    exact ⟨b, off, by simp [Addr.add], by simpa using hcell⟩
  · exact ⟨b, off + nx, by simp [Addr.add, hz], by rw [Nat.add_assoc]; exact hcell⟩
end Go.Proofs.YtgnbkepdbdgkdaaGreatDoor
