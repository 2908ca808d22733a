/- Texts joined: VdArg. -/
import Derived.Test.YtgpfpnenpgnogaaGreatDoorJa50
/- A verdict among the arguments that a row's call is given. -/
namespace Go.Proofs.YtgpfpnenpgnogaaGreatDoor
open Go.ChangeShapes Go.WideShapes Go.ChangeAt Go.RowKit Pl

set_option maxRecDepth 100000

theorem bytesPr : Tryz.prog.bytesOf 75 = 16 := by kernel_rfl
theorem cellsPr : Tryz.prog.cellsOf 75 = 2 := by kernel_rfl
theorem cellsIn1 : Tryz.prog.cellsOf 3 = 1 := by kernel_rfl
theorem pairsIn_of {H : Type} {enc : TypeId × Value → H} {W : World} {v : Value} {y : DataW H × List MemPlace} {fuel : Nat}
    (hf : DataW.trod enc Tryz.prog W 0 (fun _ => true) true fuel 34 [v] = some y) (hsz : ∀ x ∈ y.1.weights Tryz.prog 34, x ≤ reachBytes) :
    ∃ a n c l, v = .slice a n c ∧ EdgeArg W a n c l := by
  rcases Deep.open_slice Tryz.underlying34 hf with ⟨hcs, hx⟩ | ⟨a, n, c, q, fu, D, Pl, hcs, _, hl, hm, hz, hx, hcell⟩
  · obtain rfl := (List.cons.inj hcs).1
    exact ⟨none, 0, 0, [], rfl, ⟨fun _ => rfl, rfl, Nat.le_refl _, by omega, fun k hk => by simp at hk⟩⟩
  · obtain rfl := (List.cons.inj hcs).1
    subst hx
    simp only [if_true] at hz
    subst hz
    have hr := hsz ((((List.range n).map D).length + ((List.range (q - n)).map fun j => D (n + j)).length) * Tryz.prog.bytesOf 75) (by simp [DataW.weights, Tryz.underlying34])
    rw [bytesPr] at hr
    simp only [List.length_map, List.length_range, reachBytes] at hr
    have each : ∀ i, i < q → ∃ p : Int × Int, W.cell? (a.add (i * 2)) = some (.int .i64 p.1) ∧ W.cell? (a.add (i * 2 + 1)) = some (.int .i64 p.2) := fun i hi => by
      obtain ⟨cs', h1, h2⟩ := hcell i hi
      rw [cellsPr] at h1
      obtain ⟨_, hlen, hc⟩ := World.cells?_some h1
      obtain ⟨xs, m, _, _, _, hxl, hel⟩ := DataW.trod_array Tryz.underlying75 h2
      match cs', hlen with
      | [u0, u1], _ =>
        have g0 := hel 0 (by omega)
        have g1 := hel 1 (by omega)
        rw [cellsIn1] at g0 g1
        rw [List.getElem?_eq_getElem (by omega)] at g0 g1
        obtain ⟨x, hx, _⟩ := DataW.trod_int Tryz.underlying3 g0
        obtain ⟨z, hz, _⟩ := DataW.trod_int Tryz.underlying3 g1
        have e0 := hc 0 (by omega)
        have e1 := hc 1 (by omega)
        rw [Deep.add_add] at e0 e1
        obtain rfl := (List.cons.inj (show [u0] = [Value.int .i64 x] from hx)).1
        obtain rfl := (List.cons.inj (show [u1] = [Value.int .i64 z] from hz)).1
        exact ⟨(x, z), by simpa using e0, by simpa using e1⟩
    obtain ⟨f, hfx⟩ := Deep.choose_lt each
    have hget : ∀ k, k < n → edAt ((List.range n).map f) k = f k := fun k hk => by simp [edAt, List.getD, hk]
    refine ⟨some a, n, q, (List.range n).map f, rfl, ⟨fun h => (by cases h), by simp, hl, by omega, fun k hk => ?_⟩⟩
    rw [List.length_map, List.length_range] at hk
    obtain ⟨b, off, spot⟩ := a
    have hspot : spot = none := by simpa [Addr.add] using World.cell?_spot (hfx 0 (by omega)).1
    subst hspot
    obtain ⟨h0, h1⟩ := hfx k (by omega)
    rw [add_plain] at h0 h1
    refine ⟨b, off, rfl, ?_, ?_⟩
    · rw [hget k hk]; exact h0
    · rw [hget k hk]; simpa [Nat.add_assoc] using h1

/-- an argument of type Verdict -/
theorem verdArg_of {H : Type} {enc : TypeId × Value → H} {W : World} {r : Reach} {b0 : Nat} {v : Value} {d : DataW H} {ps : List MemPlace} {ts : List TypeId} {ds : List (DataW H)} {j : Nat}
    (hval : Value.okWide Tryz.prog W r b0 39 v) (h : DataW.Trod enc Tryz.prog W 0 (fun _ => true) true 39 v d ps)
    (hsz : (DataW.weightsEach Tryz.prog ts ds).all (· ≤ reachBytes) = true) (hj : ts[j]? = some 39) (hd : ds[j]? = some d) :
    ∃ hb pa pn pc L wa wn wc word st, v = .agg #[.bool hb, .slice pa pn pc, .slice wa wn wc, .int .i64 st] ∧ EdgeArg W pa pn pc L ∧ IntArg W wa wn wc word := by
  obtain ⟨v0, v1, v2, v3, y0, y1, y2, y3, fu, rfl, rfl, rfl, h0, h1, h2, h3⟩ := Joins.open_agg4 Tryz.underlying39 (by kernel_rfl) (by kernel_rfl) hval h
  have hsz2 : (DataW.weightsEach Tryz.prog [4, 34, 37, 3] [y0.1, y1.1, y2.1, y3.1]).all (· ≤ reachBytes) = true :=
    List.all_eq_true.2 fun n hn => List.all_eq_true.1 hsz n (DataW.weights_mem_each hj hd n (by simp only [DataW.weights, Tryz.underlying39]; exact hn))
  obtain ⟨hb, e0, _⟩ := DataW.trod_bool Tryz.underlying4 h0
  obtain rfl := (List.cons.inj e0).1
  obtain ⟨st, e3, _⟩ := DataW.trod_int Tryz.underlying3 h3
  obtain rfl := (List.cons.inj e3).1
  obtain ⟨pa, pn, pc, L, rfl, hP⟩ := pairsIn_of h1 (fun x hx => of_decide_eq_true (List.all_eq_true.1 hsz2 x (DataW.weights_mem_each (j := 1) rfl rfl x hx)))
  obtain ⟨wa, wn, wc, word, rfl, hW⟩ := intIn_of h2 (fun x hx => of_decide_eq_true (List.all_eq_true.1 hsz2 x (DataW.weights_mem_each (j := 2) rfl rfl x hx)))
  exact ⟨hb, pa, pn, pc, L, wa, wn, wc, word, st, rfl, hP, hW.arg⟩
end Go.Proofs.YtgpfpnenpgnogaaGreatDoor
