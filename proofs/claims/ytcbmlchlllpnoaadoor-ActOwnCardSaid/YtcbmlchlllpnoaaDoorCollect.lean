/- slices.AppendSeq and slices.Collect at int, over an iterator that keeps what lay; act.List. -/
import Derived.Test.YtcbmlchlllpnoaaDoorMembers
import Derived.Maps.AppendAt
namespace Go.Proofs.YtcbmlchlllpnoaaDoor
open Go.RowKit Go.Shelf Pl

theorem infoInt : (Tryd.prog.info? 3).map (fun i => (i.zero, i.size, i.bytes)) = some (some (.int .i64 0), 1, 8) := by kernel_rfl

attribute [local go_sem] Oper.semAt_some

set_option maxRecDepth 100000 in
set_option maxHeartbeats 2000000 in
theorem appendSeq_any (gf : Nat) (lb : Array Value) (ok : List Nat → Nat → Prop) (S : List Nat → Prop) (N : Nat) (hN : N ≤ 1000000) (hok : ∀ pre k, ok pre k → pre.length < N)
    (eg : ∀ args w, (callFunc gf args).run Tryd.prog w = .ok (.enter gf args) w) (w : World)
    (hit : ∀ (B : Nat) (I : List Nat → World → Prop), (∀ pre V, I pre V → Below w.heap.size w V) → IterOf Tryd.prog gf lb (fun k : Nat => #[Value.int .i64 k]) ok S B I (fun _ _ _ => False)) :
    Calls Tryd.prog 44 #[.slice none 0 0, .func (.func gf) #[] lb] w fun e w' => ∃ v xs, e = .returned v ∧ S xs ∧ w'.ownsRow w.heap.size 3 1 v xs.length (xs.map (fun k : Nat => Value.int .i64 k)) ∧ Below w.heap.size w w' := by
  refine (callsIn_wide (n := 3)).1 ?_
  obtain ⟨i0, hi, hz0, hz1, hz2⟩ := info_parts infoInt
  refine callsIn_of_wp_marks Tryd.func44 rfl trivial ?_ rfl
  simp only [Tryd.ntmps44, List.size_toArray, List.length_cons, List.length_nil, Nat.reduceAdd, Nat.reduceSub, Array.replicate_succ, Array.replicate_zero, List.push_toArray, List.append_toArray, List.nil_append, List.cons_append]
  gi_wp2
  have bO := Boxed.new w 33 (.slice none 0 0)
  have hB0 : Below w.heap.size w (w.alloc (.cells #[.slice none 0 0] 33)) := (Below.refl _ w).alloc (Nat.le_refl _) _
  have hlen : ∀ pre k, ok pre k → pre.length ≤ 1000000 := fun pre k h => by have := hok pre k h; omega
  refine range_law (gf := gf) (lb := lb) rfl eg (fun _ => rfl)
    (fun pre W => (∃ v, Boxed W w.heap.size 33 v ∧ W.ownsRow w.heap.size 3 1 v pre.length (pre.map (fun k : Nat => Value.int .i64 k))) ∧ Below w.heap.size w W)
    (fun _ _ _ => False)
    (OwnFrom.and (Own.from (fun s X Y row hs hg hr => by
      obtain ⟨v, hv, hrow, _⟩ := holdsRow_own w.heap.size w.heap.size 33 3 1 (fun pre : List Nat => pre.length) (fun pre => pre.map (fun k : Nat => Value.int .i64 k)) (fun _ _ => True) s X Y row (by obtain ⟨v, a, b⟩ := hs; exact ⟨v, a, b, trivial⟩) hg hr
      exact ⟨v, hv, hrow⟩) _) (ownFrom_below (Nat.le_refl _) (by simp)))
    (fun _ _ _ _ _ hs _ _ => hs)
    ⟨⟨_, bO, World.ownsRow_nil _ _ _ _⟩, hB0⟩
    (fun x => { tmps := #[.slice none 0 0, .func (.func gf) #[] lb, .pointer (some ⟨w.heap.size, 0, none⟩), undef, .slice none 0 0, (.int .i64 x), .func (.func gf) #[] lb, (.int .i64 x), undef, undef, undef, undef, undef], defers := [] })
    (hit _ _ (fun pre V h => h.2)) ?assign ?body ?done ?stop
  case assign =>
    intro l x W K hK
    gi_wp2
    exact hK
  case body =>
    rintro l pre x W ⟨⟨v, hv, hrow⟩, hB⟩ ho
    have hc := hv.cell
    have hl := hlen _ _ ho
    gi_wp2_with (gi_at_builtin; refine wpListIn_append_own _ rfl _ _ 33 rfl w.heap.size 3 i0 (.int .i64 0) 1 8 Tryd.underlying33 hi hz0 hz1 hz2 rfl (by decide) _ _ _ rfl (hrow.alloc _) ⟨W.heap.size, 0, none⟩ 1 1 [(.int .i64 x)] rfl rfl (cell_one_new _ _ _) (by simp [Value.oneCell']) (by unfold maxLen; omega) (by omega) (by have := hB.size; simp; omega) ?_; intro v' w1 hown' hgrow _; obtain ⟨g', cap', rfl⟩ := ownsRow_succ hown'; obtain ⟨hv1, hv2, hr2, hk2, hb2⟩ := hv.appended (by decide) hrow hB.size (Nat.le_refl _) hown' hgrow; have hc1 := hv1.cell; have hf1 := hv1.frozen)
    exact ⟨.others hk2, ⟨_, hv2, by simpa using hr2⟩, hB.trans hb2⟩
  case done =>
    rintro D ys W hD hS ⟨⟨v, hv, hrow⟩, hB⟩ hK
    have hc := hv.cell
    gi_wp2
    refine ⟨by simp, .inl ⟨_, _, rfl, run_takeDeferred hK, ?_⟩⟩
    exact ⟨_, results_tmp rfl _ _ _, v, ys, rfl, hS, ownsRow_putObj hrow _ hK rfl, hB.trans (belowK_b (w := w) (Nat.le_refl _) W D _ _ (by simp at hD; omega) hK rfl rfl)⟩
  case stop =>
    rintro D c pre W _ h _
    exact h.elim

set_option maxHeartbeats 400000 in
theorem collect_any (gf : Nat) (lb : Array Value) (ok : List Nat → Nat → Prop) (S : List Nat → Prop) (N : Nat) (hN : N ≤ 1000000) (hok : ∀ pre k, ok pre k → pre.length < N)
    (eg : ∀ args w, (callFunc gf args).run Tryd.prog w = .ok (.enter gf args) w) (w : World)
    (hit : ∀ (B : Nat) (I : List Nat → World → Prop), (∀ pre V, I pre V → Below w.heap.size w V) → IterOf Tryd.prog gf lb (fun k : Nat => #[Value.int .i64 k]) ok S B I (fun _ _ _ => False)) :
    Calls Tryd.prog 33 #[.func (.func gf) #[] lb] w fun e w' => ∃ v xs, e = .returned v ∧ S xs ∧ w'.ownsRow w.heap.size 3 1 v xs.length (xs.map (fun k : Nat => Value.int .i64 k)) ∧ Below w.heap.size w w' := by
  have HC := Lib.hid (appendSeq_any gf lb ok S N hN hok eg w hit)
  clear hit hok eg hN
  go_enter Tryd.func33, Tryd.ntmps33
  go_wp2_with fail
  refine HC.out.mono ?_
  rintro e w1 ⟨v, xs, rfl, hS, hrow, hB⟩
  have HR := Lib.hid hrow
  clear hrow
  go_wp2
  go_ret
  exact ⟨v, xs, rfl, hS, HR.out, hB⟩

/-- act.members: a value that captures the set's new box -/
theorem members_any (x : Int) (w : World) :
    Calls Tryd.prog 31 #[.int .i64 x] w fun e w' => e = .returned (.func (.func 39) #[] #[.pointer (some ⟨w.heap.size, 0, none⟩)]) ∧ w.alloc (.cells #[.int .i64 x] 3) = w' := by
  go_enter Tryd.func31, Tryd.ntmps31
  go_wp2
  go_ret
  exact ⟨rfl, rfl⟩

theorem memL_len (x : Nat) : (memL x).length ≤ 8 := by
  unfold memL
  exact Nat.le_trans (List.length_filter_le _ _) (by simp)
theorem prefix_len {x : Nat} {pre : List Nat} {k : Nat} (h : pre ++ [k] <+: memL x) : pre.length < 8 := by
  have h1 := h.length_le
  have h2 := memL_len x
  rw [List.length_append, List.length_singleton] at h1
  omega

/-- slices.Collect of the members of a set -/
theorem collect_members (x C : Nat) (hx : x < 256) (w : World) (hT : Tab w) (hC : w.cell? ⟨C, 0, none⟩ = some (.int .i64 x)) :
    Calls Tryd.prog 33 #[.func (.func 39) #[] #[.pointer (some ⟨C, 0, none⟩)]] w fun e w' => ∃ v, e = .returned v ∧ w'.ownsRow w.heap.size 3 1 v (memL x).length ((memL x).map (fun k : Nat => Value.int .i64 k)) ∧ Below w.heap.size w w' := by
  refine (collect_any _ _ (fun pre k => pre ++ [k] <+: memL x) (fun xs => xs = memL x) 8 (by omega) (fun _ _ h => prefix_len h) (enters_of Tryd.func39 (by kernel_rfl) rfl) w
    (fun B I hI => members_iter B C x hx I _ (fun pre V h => hT.below (hI pre V h)) (fun pre V h => ((hI pre V h).cell (lt_of_cell hC)).trans hC))).mono ?_
  rintro e w' ⟨v, xs, rfl, rfl, hr, hb⟩
  exact ⟨v, rfl, hr, hb⟩

/-- the code that the check of a set answers -/
def setCode (ss : List ByteArray) (xs : List Int) : Int := if actsB ss then (if xs.all (setB ss.length) then 0 else 1) else 10
theorem setsErr_code {w : World} {e0 e1 e2 : Addr} (E : Errs w e0 e1 e2) (ss : List ByteArray) (xs : List Int) :
    Calls Tryd.prog 26 #[setsErr e0 e1 ss xs] w fun e w' => e = .returned (.int .i64 (setCode ss xs)) ∧ w = w' := by
  unfold setsErr setCode
  cases actsB ss
  · exact code_acts w e0 e1 e2 E
  · cases xs.all (setB ss.length)
    · exact code_set w e0 e1 e2 E
    · exact code_nil w e0 e1 e2 E
theorem setsErr_iface (e0 e1 : Addr) {ss : List ByteArray} {xs : List Int} (h : setCode ss xs ≠ 0) : ∃ a, setsErr e0 e1 ss xs = .iface 123 (.pointer (some a)) := by
  unfold setCode at h
  unfold setsErr
  cases h1 : actsB ss
  · exact ⟨e0, rfl⟩
  · cases h2 : xs.all (setB ss.length)
    · exact ⟨e1, rfl⟩
    · rw [h1, h2] at h; simp at h
theorem set_ok {ss : List ByteArray} {xs : List Int} (hz : setCode ss xs = 0) : actsB ss = true ∧ xs.all (setB ss.length) = true := by
  unfold setCode at hz
  cases h1 : actsB ss
  · rw [h1] at hz; simp at hz
  · cases h2 : xs.all (setB ss.length)
    · rw [h1, h2] at hz; simp at hz
    · exact ⟨rfl, rfl⟩
theorem one_int (w : World) (x : Int) (t : TypeId) : IntArg (w.alloc (.cells #[.int .i64 x] t)) (some ⟨w.heap.size, 0, none⟩) 1 1 [x] :=
  ⟨(fun h => by cases h), rfl, Nat.le_refl _, by omega, fun j hj => ⟨w.heap.size, 0, rfl, by
    have : j = 0 := by simp at hj; omega
    subst this
    exact cell_new w (.int .i64 x) t⟩⟩
theorem set_lt {ss : List ByteArray} {x : Int} (h : actsB ss = true) (hx : [x].all (setB ss.length) = true) : 0 ≤ x ∧ x < 256 := by
  have h8 := ((actsB_iff ss).1 h).1
  rw [List.all_cons, List.all_nil, Bool.and_true, setB_iff] at hx
  have h1 : 2 ^ ss.length ≤ 2 ^ 8 := Nat.pow_le_pow_right (by decide) h8
  have h3 : ((2 ^ ss.length : Nat) : Int) = (2 : Int) ^ ss.length := by norm_cast
  omega

/-- what List answers -/
def listL (ss : List ByteArray) (x : Int) : List Nat := if setCode ss [x] = 0 then memL x.toNat else []

set_option maxHeartbeats 400000 in
/-- act.List -/
theorem List_any {w : World} {a : Option Addr} {n c : Nat} {ss : List ByteArray} {e0 e1 e2 : Addr} (x : Int) (E : Errs w e0 e1 e2) (T : Tab w) (A : StrArg w a n c ss) :
    Calls Tryd.prog 19 #[.slice a n c, .int .i64 x] w fun e w' => ∃ v, e = .returned (.tuple #[v, .int .i64 (setCode ss [x])]) ∧
      w'.ownsRow w.heap.size 3 1 v (listL ss x).length ((listL ss x).map (fun k : Nat => Value.int .i64 k)) ∧ Below w.heap.size w w' := by
  have B1 : Below w.heap.size w (w.alloc (.cells #[.int .i64 x] 3)) := (Below.refl _ w).alloc (Nat.le_refl _) _
  have HC := Lib.hid (checkSets_any (E.below B1) (A.below B1) (one_int w x 3))
  have HD := Lib.hid (setsErr_code (E.below B1) ss [x])
  by_cases hz : setCode ss [x] = 0
  · have hab : actsB ss = true ∧ [x].all (setB ss.length) = true := by
      unfold setCode at hz
      cases h1 : actsB ss
      · rw [h1] at hz; simp at hz
      · cases h2 : [x].all (setB ss.length)
        · rw [h1, h2] at hz; simp at hz
        · exact ⟨rfl, rfl⟩
    obtain ⟨x0, x1⟩ := set_lt hab.1 hab.2
    obtain ⟨y, rfl⟩ := Int.eq_ofNat_of_zero_le x0
    rw [setsErr_yes e0 e1 hab.1 hab.2] at HC
    have HL : Hid (listL ss (y : Int) = memL y) := Lib.hid (by unfold listL; rw [if_pos hz]; rfl)
    have HZ := Lib.hid hz
    clear hz hab
    have B2 : Below w.heap.size w ((w.alloc (.cells #[.int .i64 y] 3)).alloc (.cells #[.int .i64 y] 3)) := B1.alloc (by simp) _
    have HM := Lib.hid (collect_members y (w.heap.size + 1) (by omega) ((w.alloc (.cells #[.int .i64 y] 3)).alloc (.cells #[.int .i64 y] 3)) (T.below B2)
      (by have := cell_new (w.alloc (.cells #[.int .i64 y] 3)) (.int .i64 y) 3; rwa [World.size_alloc] at this))
    go_enter Tryd.func19, Tryd.ntmps19
    go_wp2_with fail
    refine HC.out.mono ?_
    rintro e w' ⟨rfl, rfl⟩
    go_wp2_with fail
    refine (members_any _ _).mono ?_
    rintro e w' ⟨rfl, rfl⟩
    go_wp2_with fail
    refine HM.out.mono ?_
    rintro e w3 ⟨v, rfl, hr, hb⟩
    have HR := Lib.hid hr
    clear hr
    go_wp2
    go_ret2
    rw [HL.out, HZ.out]
    exact ⟨v, rfl, ownsRow_lower HR.out (by simp; omega), B2.trans (hb.mono (by simp; omega))⟩
  · obtain ⟨b, hb⟩ := setsErr_iface e0 e1 hz
    rw [hb] at HC HD
    have HL : Hid (listL ss x = []) := Lib.hid (by unfold listL; rw [if_neg hz])
    clear hz hb
    go_enter Tryd.func19, Tryd.ntmps19
    go_wp2_with fail
    refine HC.out.mono ?_
    rintro e w' ⟨rfl, rfl⟩
    go_wp2_with fail
    refine HD.out.mono ?_
    rintro e w' ⟨rfl, rfl⟩
    go_wp2
    go_ret2
    rw [HL.out]
    exact ⟨_, rfl, World.ownsRow_nil _ _ _ _, B1⟩
end Go.Proofs.YtcbmlchlllpnoaaDoor
