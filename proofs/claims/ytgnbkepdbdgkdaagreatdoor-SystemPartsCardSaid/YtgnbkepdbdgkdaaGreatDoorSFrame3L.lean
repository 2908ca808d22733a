/- What the rows of package system's laws give a walk, and how a walk's end becomes the row's. -/
import Derived.Test.YtgnbkepdbdgkdaaGreatDoorJq08
import Derived.Test.YtgnbkepdbdgkdaaGreatDoorCards
import Derived.Test.YtgnbkepdbdgkdaaGreatDoorTie
import Derived.WalkKit
import Derived.ProofKit
import Derived.OpenShut
import Derived.Deep.DeepHandedRow
import Derived.Deep.DeepWitnessRowRef
import Derived.Stop.LaidErr
import Derived.Lib.LaidTab
import Derived.Lay
import Derived.LaidMore
import Derived.MakeChecks
import Derived.Deep.SlicePairs
import Derived.Lib.SmallJoins
import Derived.Shelf.Vars
namespace Go.Proofs.YtgnbkepdbdgkdaaGreatDoor
open Go.ChangeShapes Go.WideShapes Go.ChangeAt Go.RowKit Pl

set_option maxRecDepth 100000

theorem own : ownKnob Tryz.prog.godebug = none := by kernel_rfl
theorem laidOut : laidOutB Tryz.prog = true := by kernel_rfl
theorem cellsE : Tryz.prog.cellsOf 316 = 1 := by kernel_rfl
theorem cellsS : Tryz.prog.cellsOf 9 = 1 := by kernel_rfl
theorem cellsI : Tryz.prog.cellsOf 3 = 1 := by kernel_rfl
theorem cells8 : Tryz.prog.cellsOf 5 = 1 := by kernel_rfl
theorem cells64 : Tryz.prog.cellsOf 222 = 1 := by kernel_rfl
theorem bytesE : Tryz.prog.bytesOf 87 = 16 := by kernel_rfl
theorem bytesR : Tryz.prog.bytesOf 77 = 24 := by kernel_rfl
theorem bytesS : Tryz.prog.bytesOf 9 = 16 := by kernel_rfl
theorem bytesI : Tryz.prog.bytesOf 3 = 8 := by kernel_rfl
theorem star : "*" ++ "errors.errorString" = "*errors.errorString" := by decide
theorem nameE (u : TypeId) (h : Tryz.prog.typeName? 3 u = some "*errors.errorString") : u = 314 :=
  typeName_ptr_named (nm := "errors.errorString") (by rw [star]; kernel_rfl) (by kernel_rfl) (by decide) u (by rw [star]; exact h)

/-- one sentinel at the head of a list: what the variable holds, the row behind it, its place -/
theorem sentinel {n : String} {text : List UInt8} {r : List (String × DataW Unit)} {W : World} (g : Nat) (h : laidMet Tryz.prog ((n, .iface "*errors.errorString" (.ptr (.agg [.lit (.string text)]))) :: r) W)
    (hg : Tryz.prog.globalNamed n = some g) (ht : (Tryz.prog.globals[g]?).map (·.type) = some 157) :
    ∃ a, ErrAt W g a ∧ ∃ s, W.cell? a = some (.string s) ∧ s.data.toList = text := by
  obtain ⟨ps, ⟨g0, t0, cs0, f0, p0, q0, hg0, ht0, hv0, hd0, _, e0⟩, hnd, hrows⟩ := h
  obtain rfl := Option.some.inj (hg.symm.trans hg0)
  obtain rfl := Option.some.inj (ht.symm.trans ht0)
  subst e0
  obtain ⟨l0⟩ := cs0
  have ok0 : ∀ u v, l0 = [.iface u v] → Value.okWide Tryz.prog W .any 0 u v := fun u v e => by
    subst e
    exact (hrows g 0 (by simp [MemPlace.row])).2 u v (by simpa using World.var?_cell hg0 hv0 0)
  obtain ⟨a0, s0, rfl, hc0, hs0, hz0, rfl⟩ := errorString_of_trod Tryz.underlying157 nameE Tryz.underlying314 Tryz.underlying316 rfl rfl Tryz.underlying9 cellsE cellsS hd0 ok0
  exact ⟨a0, ⟨by simpa using World.var?_cell hg0 hv0 0, (hrows a0.block a0.off (by simp [MemPlace.row])).1⟩, s0, hc0, hs0⟩
theorem other_text {W : World} {a b : Addr} {s t : ByteArray} {x y : List UInt8} (ha : W.cell? a = some (.string s)) (hs : s.data.toList = x) (hb : W.cell? b = some (.string t)) (ht : t.data.toList = y) (hxy : x ≠ y) : a ≠ b := by
  rintro rfl
  rw [ha] at hb
  cases hb
  exact hxy (hs.symm.trans ht)


/-- what an error's variable holds -/
theorem sent_var {n : String} {text : List UInt8} {r : List (String × DataW Unit)} {W : World} (h : laidMet Tryz.prog ((n, .iface "*errors.errorString" (.ptr (.agg [.lit (.string text)]))) :: r) W)
    (g : Nat) (hg : Tryz.prog.globalNamed n = some g) (ht : (Tryz.prog.globals[g]?).map (·.type) = some 157) : ∃ tp p, W.var? Tryz.prog n = some #[.iface tp p] := by
  obtain ⟨ps, ⟨g0, t0, cs0, f0, p0, q0, hg0, ht0, hv0, hd0, _, e0⟩, hnd, hrows⟩ := h
  obtain rfl := Option.some.inj (hg.symm.trans hg0)
  obtain rfl := Option.some.inj (ht.symm.trans ht0)
  subst e0
  obtain ⟨l0⟩ := cs0
  have ok0 : ∀ u v, l0 = [.iface u v] → Value.okWide Tryz.prog W .any 0 u v := fun u v e => by
    subst e
    exact (hrows g 0 (by simp [MemPlace.row])).2 u v (by simpa using World.var?_cell hg0 hv0 0)
  obtain ⟨a0, s0, rfl, hc0, hs0, hz0, rfl⟩ := errorString_of_trod Tryz.underlying157 nameE Tryz.underlying314 Tryz.underlying316 rfl rfl Tryz.underlying9 cellsE cellsS hd0 ok0
  exact ⟨_, _, hv0⟩
theorem pow_laid : (Rows.laid_internal_strconv_uint64pow10 : DataW Unit) = Lib.tabData .u64 Lib.pow10Tab := by kernel_rfl
theorem env_of_laid {W : World} (h0 : laidMetH Tryz.prog Rows.systemPartsRow.laid W) (hsh : W.ShapedOpen Tryz.prog) : Env W := by
  rw [MakeChecks.laidMetH_plain _ _ _ (by kernel_rfl)] at h0
  have h : laidMet Tryz.prog Rows.systemPartsRow.laid W := h0
  have h2 := h.tail.tail
  have h4 := h2.tail.tail
  have h6 := h4.tail.tail
  obtain ⟨e0, E0, s0, c0, x0⟩ := sentinel 0 h6 (by kernel_rfl) (by kernel_rfl)
  obtain ⟨e1, E1, s1, c1, x1⟩ := sentinel 1 h6.tail (by kernel_rfl) (by kernel_rfl)
  obtain ⟨e2, E2, s2, c2, x2⟩ := sentinel 2 h6.tail.tail (by kernel_rfl) (by kernel_rfl)
  refine ⟨⟨e0, e1, e2, E0, E1, E2, other_text c0 x0 c1 x1 (by decide), other_text c0 x0 c2 x2 (by decide), other_text c1 x1 c2 x2 (by decide)⟩, ?_, ?_, ?_, ?_⟩
  · refine Lib.tabIs_of_head (rest := Rows.systemPartsRow.laid.tail.tail.tail) (g := 5) (by kernel_rfl) (by kernel_rfl) Tryz.underlying288 Tryz.underlying222 cells64 (by kernel_rfl) ?_
    rw [← pow_laid]
    exact h2
  · exact sent_var h4 8 (by kernel_rfl) (by kernel_rfl)
  · exact cell_of_shapedOpen_int (g := 6) (t := 3) (zero := #[.int .i64 0]) hsh (by decide +kernel) (by kernel_rfl) rfl (by kernel_rfl) (by kernel_rfl) Tryz.underlying3
  · have hs : (((begin Tryz.prog (fun _ _ => 0) default).world.heap[11 - 1]?).bind Obj.row?).isSome = true := by kernel_rfl
    obtain ⟨⟨zero, t⟩, he⟩ := Option.isSome_iff_exists.1 hs
    obtain ⟨cs, hh, _⟩ := hsh.1 (11 - 1) zero t (by decide +kernel) he
    have := (Array.getElem?_eq_some_iff.1 hh).1
    omega

/-- an argument of type []string -/
theorem strArg_of {H : Type} {enc : TypeId × Value → H} {W : World} {r : Reach} {b0 : Nat} {v : Value} {d : DataW H} {ps : List MemPlace} {ts : List TypeId} {ds : List (DataW H)} {j : Nat}
    (hval : Value.okWide Tryz.prog W r b0 22 v) (h : DataW.Trod enc Tryz.prog W 0 (fun _ => true) true 22 v d ps)
    (hsz : (DataW.weightsEach Tryz.prog ts ds).all (· ≤ reachBytes) = true) (hj : ts[j]? = some 22) (hd : ds[j]? = some d) :
    ∃ a n c ss, v = .slice a n c ∧ StrArg W a n c ss ∧ n * 16 ≤ 140737488351232 := by
  obtain ⟨a0, n, c, rfl⟩ := okWide_slice Tryz.underlying22 hval
  obtain ⟨fuel, hf⟩ := h
  rcases open_strings Tryz.underlying22 Tryz.underlying9 cellsS hf with ⟨hcs, hx⟩ | ⟨a, n', c', ss, hcs, _, hl, hm, hz, hx, hcell, hws⟩
  · simp [Value.cells] at hcs
    obtain ⟨rfl, rfl, rfl⟩ := hcs
    exact ⟨none, 0, 0, [], rfl, ⟨fun _ => rfl, rfl, Nat.le_refl _, by omega, fun k hk => by omega, fun k hk => by simp at hk⟩, by omega⟩
  · simp [Value.cells] at hcs
    obtain ⟨rfl, rfl, rfl⟩ := hcs
    simp only [Prod.mk.injEq] at hx
    obtain ⟨rfl, rfl⟩ := hx
    simp only [if_true] at hz
    have hr := sized_slice hsz hj hd Tryz.underlying22
    rw [bytesS] at hr
    simp only [strs, List.length_map, List.length_take, List.length_drop, reachBytes] at hr
    have hmax : maxLen = 9223372036854775807 := rfl
    have hget : ∀ k, k < n → at_ (ss.take n) k = ss.getD k ByteArray.empty := fun k hk => by
      unfold at_
      rw [List.getD_eq_getElem?_getD, List.getD_eq_getElem?_getD, List.getElem?_take, if_pos hk]
    refine ⟨some a, n, c, ss.take n, rfl, ⟨fun h => (by cases h), by rw [List.length_take]; omega, hl, by omega, fun k hk => ?_, fun k hk => ?_⟩, by omega⟩
    · rw [hget k hk]
      have hk' : k < ss.length := by omega
      rw [List.getD_eq_getElem?_getD, List.getElem?_eq_getElem hk', Option.getD_some]
      exact hws _ (List.getElem_mem hk')
    · rw [List.length_take] at hk
      obtain ⟨b, off, spot⟩ := a
      have hspot : spot = none := by simpa [Addr.add] using World.cell?_spot (hcell 0 (by omega))
      subst hspot
      refine ⟨b, off, rfl, ?_⟩
      show W.cell? ⟨b, off + k, none⟩ = some (.string (at_ (ss.take n) k))
      rw [hget k (by omega)]
      have := hcell k (by omega)
      rwa [add_plain] at this

/-- an argument of type []int -/
theorem intArg_of {H : Type} {enc : TypeId × Value → H} {W : World} {r : Reach} {b0 : Nat} {v : Value} {d : DataW H} {ps : List MemPlace} {ts : List TypeId} {ds : List (DataW H)} {j : Nat}
    (hval : Value.okWide Tryz.prog W r b0 28 v) (h : DataW.Trod enc Tryz.prog W 0 (fun _ => true) true 28 v d ps)
    (hsz : (DataW.weightsEach Tryz.prog ts ds).all (· ≤ reachBytes) = true) (hj : ts[j]? = some 28) (hd : ds[j]? = some d) :
    ∃ a n c xs, v = .slice a n c ∧ IntArg W a n c xs ∧ n * 8 ≤ 140737488351232 ∧ (∀ x ∈ xs, (Lit.int .i64 x).wf = true) := by
  obtain ⟨a0, n, c, rfl⟩ := okWide_slice Tryz.underlying28 hval
  obtain ⟨fuel, hf⟩ := h
  rcases open_ints Tryz.underlying28 Tryz.underlying3 cellsI hf with ⟨hcs, hx⟩ | ⟨a, n', c', zs, hcs, _, hl, hm, hz, hx, hcell, hws⟩
  · simp [Value.cells] at hcs
    obtain ⟨rfl, rfl, rfl⟩ := hcs
    exact ⟨none, 0, 0, [], rfl, ⟨fun _ => rfl, rfl, Nat.le_refl _, by omega, fun k hk => by simp at hk⟩, by omega, fun x hx => (by cases hx)⟩
  · simp [Value.cells] at hcs
    obtain ⟨rfl, rfl, rfl⟩ := hcs
    simp only [Prod.mk.injEq] at hx
    obtain ⟨rfl, rfl⟩ := hx
    simp only [if_true] at hz
    have hr := sized_slice hsz hj hd Tryz.underlying28
    rw [bytesI] at hr
    simp only [lits, List.length_map, List.length_take, List.length_drop, reachBytes] at hr
    have hmax : maxLen = 9223372036854775807 := rfl
    have hget : ∀ k, k < n → (zs.take n).getD k 0 = zs.getD k 0 := fun k hk => by
      rw [List.getD_eq_getElem?_getD, List.getD_eq_getElem?_getD, List.getElem?_take, if_pos hk]
    refine ⟨some a, n, c, zs.take n, rfl, ⟨fun h => (by cases h), by rw [List.length_take]; omega, hl, by omega, fun k hk => ?_⟩, by omega, fun x hx => hws x (List.mem_of_mem_take hx)⟩
    rw [List.length_take] at hk
    obtain ⟨b, off, spot⟩ := a
    have hspot : spot = none := by simpa [Addr.add] using World.cell?_spot (hcell 0 (by omega))
    subst hspot
    refine ⟨b, off, rfl, ?_⟩
    rw [hget k (by omega)]
    have := hcell k (by omega)
    rwa [add_plain] at this


theorem each_mem {H : Type} {P : Program} {e : TypeId} {d : DataW H} {n : Nat} (hn : n ∈ d.weights P e) : ∀ {l : List (DataW H)}, d ∈ l → n ∈ DataW.weightsAll P e l
  | x :: l, h => by
    unfold DataW.weightsAll
    rcases List.mem_cons.1 h with e | h'
    · rw [← e]; exact List.mem_append_left _ hn
    · exact List.mem_append_right _ (each_mem hn h')

/-- []string, as cells -/
theorem strIn_of {H : Type} {enc : TypeId × Value → H} {W : World} {v : Value} {y : DataW H × List MemPlace} {fuel : Nat} {ts : List TypeId} {ds : List (DataW H)} {j : Nat}
    (hf : DataW.trod enc Tryz.prog W 0 (fun _ => true) true fuel 22 [v] = some y)
    (hsz : (DataW.weightsEach Tryz.prog ts ds).all (· ≤ reachBytes) = true) (hj : ts[j]? = some 22) (hd : ds[j]? = some y.1) :
    ∃ a n c ss, v = .slice a n c ∧ StrArg W a n c ss ∧ n * 16 ≤ 140737488351232 := by
  rcases open_strings Tryz.underlying22 Tryz.underlying9 cellsS hf with ⟨hcs, hx⟩ | ⟨a, n, c, ss, hcs, _, hl, hm, hz, hx, hcell, hws⟩
  · obtain rfl := (List.cons.inj hcs).1
    exact ⟨none, 0, 0, [], rfl, ⟨fun _ => rfl, rfl, Nat.le_refl _, by omega, fun k hk => by omega, fun k hk => by simp at hk⟩, by omega⟩
  · obtain rfl := (List.cons.inj hcs).1
    subst hx
    simp only [if_true] at hz
    have hr := sized_slice hsz hj hd Tryz.underlying22
    rw [bytesS] at hr
    simp only [strs, List.length_map, List.length_take, List.length_drop, reachBytes] at hr
    have hmax : maxLen = 9223372036854775807 := rfl
    have hget : ∀ k, k < n → at_ (ss.take n) k = ss.getD k ByteArray.empty := fun k hk => by
      unfold at_
      rw [List.getD_eq_getElem?_getD, List.getD_eq_getElem?_getD, List.getElem?_take, if_pos hk]
    refine ⟨some a, n, c, ss.take n, rfl, ⟨fun h => (by cases h), by rw [List.length_take]; omega, hl, by omega, fun k hk => ?_, fun k hk => ?_⟩, by omega⟩
    · rw [hget k hk]
      have hk' : k < ss.length := by omega
      rw [List.getD_eq_getElem?_getD, List.getElem?_eq_getElem hk', Option.getD_some]
      exact hws _ (List.getElem_mem hk')
    · rw [List.length_take] at hk
      obtain ⟨b, off, spot⟩ := a
      have hspot : spot = none := by simpa [Addr.add] using World.cell?_spot (hcell 0 (by omega))
      subst hspot
      refine ⟨b, off, rfl, ?_⟩
      show W.cell? ⟨b, off + k, none⟩ = some (.string (at_ (ss.take n) k))
      rw [hget k (by omega)]
      have := hcell k (by omega)
      rwa [add_plain] at this

/-- []Edge, as a cell -/
theorem edgeIn_of {H : Type} {enc : TypeId × Value → H} {W : World} {v : Value} {y : DataW H × List MemPlace} {fuel : Nat}
    (hf : DataW.trod enc Tryz.prog W 0 (fun _ => true) true fuel 77 [v] = some y) (hsz : ∀ x ∈ y.1.weights Tryz.prog 77, x ≤ reachBytes) :
    ∃ a n c l, v = .slice a n c ∧ EdgeArg W a n c l ∧ n * 16 ≤ 140737488351232 := by
  rcases Deep.open_slice_pairs Tryz.underlying77 Tryz.underlying87 (by kernel_rfl) rfl rfl (by kernel_rfl) (by kernel_rfl) hf with ⟨hcs, hx⟩ | ⟨a, n, c, q, fu, V0, V1, D0, D1, P0, P1, hcs, _, hl, hm, hz, hx, hcell⟩
  · obtain rfl := (List.cons.inj hcs).1
    exact ⟨none, 0, 0, [], rfl, ⟨fun _ => rfl, rfl, Nat.le_refl _, by omega, fun k hk => by simp at hk⟩, by omega⟩
  · obtain rfl := (List.cons.inj hcs).1
    subst hx
    simp only [if_true] at hz
    subst hz
    have hr := hsz ((((List.range n).map fun i => DataW.agg [D0 i, D1 i]).length + ((List.range (q - n)).map fun j => DataW.agg [D0 (n + j), D1 (n + j)]).length) * Tryz.prog.bytesOf 87) (by simp [DataW.weights, Tryz.underlying77])
    rw [bytesE] at hr
    simp only [List.length_map, List.length_range, reachBytes] at hr
    have each : ∀ i, i < q → ∃ p : Int × Int, V0 i = .int .i64 p.1 ∧ V1 i = .int .i64 p.2 := fun i hi => by
      obtain ⟨_, _, h0, h1⟩ := hcell i hi
      obtain ⟨x, hx, _⟩ := DataW.trod_int Tryz.underlying3 h0
      obtain ⟨z, hz, _⟩ := DataW.trod_int Tryz.underlying3 h1
      exact ⟨(x, z), (List.cons.inj hx).1, (List.cons.inj hz).1⟩
    obtain ⟨f, hfx⟩ := Deep.choose_lt each
    have hget : ∀ k, k < n → edAt ((List.range n).map f) k = f k := fun k hk => by simp [edAt, List.getD, hk]
    refine ⟨some a, n, q, (List.range n).map f, rfl, ⟨fun h => (by cases h), by simp, hl, by omega, fun k hk => ?_⟩, by omega⟩
    rw [List.length_map, List.length_range] at hk
    obtain ⟨b, off, spot⟩ := a
    have hspot : spot = none := by simpa [Addr.add] using World.cell?_spot (hcell 0 (by omega)).1
    subst hspot
    obtain ⟨h0, h1, _⟩ := hcell k (by omega)
    rw [add_plain] at h0 h1
    rw [(hfx k (by omega)).1] at h0
    rw [(hfx k (by omega)).2] at h1
    refine ⟨b, off, rfl, ?_, ?_⟩
    · rw [hget k hk]; exact h0
    · rw [hget k hk]; exact h1

/-- an argument of type System -/
theorem sysArg_of {H : Type} {enc : TypeId × Value → H} {W : World} {r : Reach} {b0 : Nat} {v : Value} {d : DataW H} {ps : List MemPlace} {ts : List TypeId} {ds : List (DataW H)} {j : Nat}
    (hval : Value.okWide Tryz.prog W r b0 25 v) (h : DataW.Trod enc Tryz.prog W 0 (fun _ => true) true 25 v d ps)
    (hsz : (DataW.weightsEach Tryz.prog ts ds).all (· ≤ reachBytes) = true) (hj : ts[j]? = some 25) (hd : ds[j]? = some d) :
    ∃ a n c b k e m, v = .agg #[.slice a n c, .slice b k e] ∧ SysArg W a n c b k e m := by
  obtain ⟨v0, v1, y0, y1, fu, rfl, rfl, rfl, h0, h1⟩ := Joins.open_agg2 Tryz.underlying25 (by kernel_rfl) (by kernel_rfl) hval h
  have hsz2 : (DataW.weightsEach Tryz.prog [22, 23] [y0.1, y1.1]).all (· ≤ reachBytes) = true :=
    List.all_eq_true.2 fun n hn => List.all_eq_true.1 hsz n (DataW.weights_mem_each hj hd n (by simp only [DataW.weights, Tryz.underlying25]; exact hn))
  obtain ⟨a, n, c, acts, rfl, hA, hn⟩ := strIn_of (j := 0) h0 hsz2 rfl rfl
  rcases Deep.open_slice1 Tryz.underlying23 (by kernel_rfl) h1 with ⟨hcs, hx⟩ | ⟨b, k, e, q, fu', V, D, Pl, hcs, _, hl, hm, hz, hx, hcell⟩
  · obtain rfl := (List.cons.inj hcs).1
    exact ⟨a, n, c, none, 0, 0, ⟨acts, []⟩, rfl, ⟨hA, by omega, fun _ => rfl, rfl, Nat.le_refl _, by omega, fun i hi => by simp at hi⟩⟩
  · obtain rfl := (List.cons.inj hcs).1
    obtain ⟨y1d, y1p⟩ := y1
    simp only [Prod.mk.injEq] at hx
    obtain ⟨rfl, rfl⟩ := hx
    simp only [if_true] at hz
    subst hz
    have hr := sized_slice (j := 1) hsz2 rfl rfl Tryz.underlying23
    rw [bytesR] at hr
    simp only [List.length_map, List.length_range, reachBytes] at hr
    have each : ∀ i, i < k → ∃ l : List Edg, ∃ ai ni ci, V i = .slice ai ni ci ∧ EdgeArg W ai ni ci l := fun i hi => by
      obtain ⟨hc, ht⟩ := hcell i (by omega)
      obtain ⟨ai, ni, ci, l, h2, h3, _⟩ := edgeIn_of ht (fun x hx => of_decide_eq_true (List.all_eq_true.1 hsz2 x (DataW.weights_mem_each (j := 1) rfl rfl x (by
        simp only [DataW.weights, Tryz.underlying23]
        exact List.mem_cons_of_mem _ (List.mem_append_left _ (each_mem hx (List.mem_map.2 ⟨i, List.mem_range.2 hi, rfl⟩)))))))
      exact ⟨l, ai, ni, ci, h2, h3⟩
    obtain ⟨f, hfx⟩ := Deep.choose_lt each
    have hget : ∀ i, i < k → stAt ((List.range k).map f) i = f i := fun i hi => by simp [stAt, List.getD, hi]
    refine ⟨a, n, c, some b, k, q, ⟨acts, (List.range k).map f⟩, rfl, ⟨hA, by omega, fun h => (by cases h), by simp, hl, by omega, fun i hi => ?_⟩⟩
    rw [List.length_map, List.length_range] at hi
    obtain ⟨bb, off, spot⟩ := b
    have hspot : spot = none := by simpa [Addr.add] using World.cell?_spot (hcell 0 (by omega)).1
    subst hspot
    obtain ⟨h2, _⟩ := hcell i (by omega)
    rw [add_plain] at h2
    obtain ⟨ai, ni, ci, h3, h4⟩ := hfx i hi
    rw [h3] at h2
    refine ⟨bb, off, rfl, ai, ni, ci, h2, ?_⟩
    rw [hget i hi]
    exact h4

theorem trod_below {H : Type} {enc : TypeId × Value → H} {W W' : World} (hb : Below W.heap.size W W') (ts : List TypeId) : ∀ {vs : List Value} {ds : List (DataW H)} {ps : List MemPlace},
    (ts.all fun t => Tryz.prog.readableRec t && decide (t < Tryz.prog.types.size)) = true → DataW.TrodAll enc Tryz.prog W 0 (fun _ => true) true ts vs ds ps → (∀ x ∈ ps, x.block < W.heap.size) →
    DataW.TrodAll enc Tryz.prog W' 0 (fun b => decide (b < W.heap.size)) true ts vs ds ps := by
  induction ts with
  | nil =>
    intro vs ds ps _ h _
    obtain ⟨rfl, rfl, rfl⟩ := trodAll_nil h
    exact trodAll_mk0
  | cons t ts ih =>
    intro vs ds ps ht h hlt
    obtain ⟨v, vs', d, ds', p, q, rfl, rfl, rfl, h1, h2⟩ := trodAll_cons h
    rw [List.all_cons, Bool.and_eq_true, Bool.and_eq_true] at ht
    exact trodAll_cons_mk (Below.trod laidOut ht.1.1 (of_decide_eq_true ht.1.2) h1 hb (fun x hx => hlt x (List.mem_append_left _ hx))) (ih ht.2 h2 (fun x hx => hlt x (List.mem_append_right _ hx)))

/-- A CALL THAT RETURNS true AND TURNED NOTHING OLD IS WHAT THE ROW SAYS. -/
theorem ended {H : Type} {enc : TypeId × Value → H} {f : Func} {s : ChangeSpec} {W W' : World} {args : Array Value} {ds gs : List (DataW H)} {before : List MemPlace}
    (hW : DataW.Whole enc Tryz.prog f.params.toList s.vars false W args.toList ds gs before) (hv : s.vars = []) (hr : f.resultTypes = #[4])
    (ht : (f.params.toList.all fun t => Tryz.prog.readableRec t && decide (t < Tryz.prog.types.size)) = true)
    (hfn : s.fn H ds = { results := [.lit (.bool true)], args := ds }) (hb : Below W.heap.size W W') :
    s.post enc Tryz.prog f false true false false W args (.bool true) W' := by
  have hlt := hW.lt
  have hW' := hW
  obtain ⟨p, q, hA, hV, rfl, _, _⟩ := hW
  rw [hv] at hV
  obtain ⟨rfl, rfl⟩ := trodVars_none hV
  simp only [List.append_nil] at hlt hW' 
  refine ⟨_, _, _, [] ++ [], p, [], hW', ?_, ?_, ?_, hb.frame _, fun h => by cases h⟩
  · rw [List.append_nil, hfn, hr]
    exact trodAll_mk1 (shut_bool Tryz.underlying4 true)
  · rw [List.append_nil, hfn]
    exact trod_below hb _ ht hA (fun x hx => hlt x hx)
  · rw [List.append_nil, hfn, hv]
    rfl
end Go.Proofs.YtgnbkepdbdgkdaaGreatDoor
