/- Texts joined: Fans, ProdPl. -/
import Derived.Test.YtgnbkepdbdgkdaaGreatDoorJq11
import Derived.Test.YtgnbkepdbdgkdaaGreatDoorJq19
/- system.fansOf: the edges of each state, apart for each action. -/
namespace Go.Proofs.YtgnbkepdbdgkdaaGreatDoor
open Go.RowKit Pl

/-! ### rows of values -/
def rowF (n : Nat) (F : Nat → Value) : List Value := (List.range n).map F
theorem rowF_at {n y : Nat} (F : Nat → Value) (h : y < n) : (rowF n F)[y]? = some (F y) := by simp [rowF, h]
theorem rowF_congr {n : Nat} {F G : Nat → Value} (h : ∀ y, y < n → F y = G y) : rowF n F = rowF n G := List.map_congr_left fun y hy => h y (List.mem_range.1 hy)
theorem rowF_set {n t : Nat} (F : Nat → Value) (v : Value) (ht : t < n) : (rowF n F).set t v = rowF n (fun y => if y = t then v else F y) := by
  refine List.ext_getElem? fun i => ?_
  rw [List.getElem?_set]
  by_cases hi : i < n
  · by_cases e : t = i
    · subst e
      rw [if_pos rfl, if_pos (by simp [rowF]; exact hi), rowF_at _ hi, if_pos rfl]
    · rw [if_neg e, rowF_at F hi, rowF_at _ hi, if_neg (fun h => e h.symm)]
  · rw [List.getElem?_eq_none (by simp [rowF]; omega)]
    by_cases e : t = i
    · omega
    · rw [if_neg e, List.getElem?_eq_none (by simp [rowF]; omega)]
theorem rowF_const (n : Nat) (v : Value) : List.replicate n v = rowF n (fun _ => v) := by
  refine List.ext_getElem (by simp [rowF]) fun i h1 h2 => ?_
  simp [rowF]

/-- the edges with an action -/
def fanL (l : List Edg) (a : Nat) : List Edg := l.filter fun e => decide (e.1 = (a : Int))
theorem fanL_mem {l : List Edg} {a : Nat} {e : Edg} (h : e ∈ fanL l a) : e ∈ l ∧ e.1 = (a : Int) := by
  unfold fanL at h
  rw [List.mem_filter, decide_eq_true_eq] at h
  exact h
theorem leads_fan (l : List Edg) (a y : Nat) : leads l (a : Int) y = (fanL l a).any (fun e => decide (e.2 = (y : Int))) := by
  unfold leads fanL
  rw [List.any_filter]
/-- the actions of the edges rise -/
theorem edges_rise {na ns : Nat} {l : List Edg} (h : edgesB na ns l = true) : ∀ i j, i ≤ j → j < l.length → (edAt l i).1 ≤ (edAt l j).1 := by
  intro i j hij hj
  induction j with
  | zero =>
    obtain rfl : i = 0 := by omega
    exact Int.le_refl _
  | succ j ih =>
    by_cases e : i = j + 1
    · rw [e]; exact Int.le_refl _
    · have h1 := ih (by omega) (by omega)
      have h2 := (edgesB_iff _ _ _).1 h (j + 1) hj
      unfold edgeB at h2
      simp only [Bool.and_eq_true, Bool.or_eq_true, decide_eq_true_eq] at h2
      rcases h2.2 with h3 | h3
      · omega
      · have h4 := (ltE_iff _ _).1 h3
        simp only [Nat.add_sub_cancel] at h4
        omega
theorem fan_seg {l : List Edg} {fr i A : Nat} (h1 : fr ≤ i) (h2 : i < l.length) (hF : ∀ j, fr ≤ j → j ≤ i → (edAt l j).1 = (A : Int)) (hB : ∀ j, j < fr → (edAt l j).1 ≠ (A : Int)) :
    fanL (l.take (i + 1)) A = (l.drop fr).take (i + 1 - fr) ∧ ∀ a, a ≠ A → fanL (l.take (i + 1)) a = fanL (l.take fr) a := by
  have e : l.take (i + 1) = l.take fr ++ (l.drop fr).take (i + 1 - fr) := by
    rw [← List.take_append_drop fr (l.take (i + 1)), List.take_take, List.drop_take, Nat.min_eq_left (by omega)]
  have hm : ∀ x ∈ (l.drop fr).take (i + 1 - fr), x.1 = (A : Int) := by
    intro x hx
    obtain ⟨j, hj, rfl⟩ := List.getElem_of_mem hx
    rw [List.length_take, List.length_drop] at hj
    have := hF (fr + j) (by omega) (by omega)
    unfold edAt at this
    rw [List.getD_eq_getElem?_getD, List.getElem?_eq_getElem (by omega)] at this
    rw [List.getElem_take, List.getElem_drop]
    exact this
  have hn : ∀ x ∈ l.take fr, x.1 ≠ (A : Int) := by
    intro x hx
    obtain ⟨j, hj, rfl⟩ := List.getElem_of_mem hx
    rw [List.length_take] at hj
    have := hB j (by omega)
    unfold edAt at this
    rw [List.getD_eq_getElem?_getD, List.getElem?_eq_getElem (by omega)] at this
    rw [List.getElem_take]
    exact this
  constructor
  · unfold fanL
    rw [e, List.filter_append, List.filter_eq_nil_iff.2 (fun x hx => by simpa using hn x hx), List.filter_eq_self.2 (fun x hx => by simpa using hm x hx), List.nil_append]
  · intro a ha
    have hz : ((l.drop fr).take (i + 1 - fr)).filter (fun e => decide (e.1 = (a : Int))) = [] := List.filter_eq_nil_iff.2 (fun x hx => by rw [hm x hx, decide_eq_true_eq]; omega)
    unfold fanL
    rw [e, List.filter_append, hz, List.append_nil]
/-- 'edges[lo:hi]' -/
theorem cutE {w : World} {a : Option Addr} {n c : Nat} {l : List Edg} (A : EdgeArg w a n c l) (lo hi : Nat) (h1 : lo ≤ hi) (h2 : hi ≤ n) :
    ∃ a', (∀ w', (Instr.slice 77 (.slice a n c) (some (.int .i64 lo)) (some (.int .i64 hi)) none).run Tryz.prog w' = .ok (.slice a' (hi - lo) (c - lo)) w') ∧ EdgeArg w a' (hi - lo) (c - lo) ((l.drop lo).take (hi - lo)) := by
  have h3 := A.cap
  have h4 : (0 : Int) ≤ lo := by omega
  have h5 : (lo : Int) ≤ hi := by omega
  have h6 : (hi : Int) ≤ c := by omega
  refine ⟨if c = lo then a else a.map fun x => x.add (lo * 2), fun w' => by go_simp, fun e => ?_, by rw [List.length_take, List.length_drop, ← A.len]; omega, by omega, by have := A.big; omega, fun j hj => ?_⟩
  · by_cases hc : c = lo
    · omega
    · rw [if_neg hc] at e
      cases a with
      | none => have := A.nil rfl; omega
      | some x => cases e
  · rw [List.length_take, List.length_drop, ← A.len] at hj
    obtain ⟨b, off, rfl, c1, c2⟩ := A.cells (lo + j) (by rw [← A.len]; omega)
    have e : edAt ((l.drop lo).take (hi - lo)) j = edAt l (lo + j) := by
      unfold edAt
      rw [List.getD_eq_getElem?_getD, List.getD_eq_getElem?_getD, List.getElem?_take, if_pos (by omega), List.getElem?_drop]
    rw [e, if_neg (by omega)]
    refine ⟨b, off + lo * 2, by simp [add_plainly], ?_, ?_⟩
    · rw [show off + lo * 2 + j * 2 = off + (lo + j) * 2 by omega]; exact c1
    · rw [show off + lo * 2 + j * 2 + 1 = off + (lo + j) * 2 + 1 by omega]; exact c2

/-- what fansOf hands back: a row of its own, for each state eight slices into the system's memory -/
structure FansArg (w0 w : World) (g k : Nat) (ss : List (List Edg)) : Prop where
  cells : ∀ x, x < k → ∀ a, a < 8 → ∃ ai ni ci, w.cell? ⟨g, x * 8 + a, none⟩ = some (.slice ai ni ci) ∧ EdgeArg w0 ai ni ci (fanL (stAt ss x) a)
theorem FansArg.below {w0 w w' : World} {g k : Nat} {ss : List (List Edg)} {B : Nat} (h : FansArg w0 w g k ss) (hb : Below B w w') (hg : g < B) : FansArg w0 w' g k ss :=
  ⟨fun x hx a ha => by
    obtain ⟨ai, ni, ci, h1, h2⟩ := h.cells x hx a ha
    exact ⟨ai, ni, ci, (hb.cell hg).trans h1, h2⟩⟩
theorem infoFan : (Tryz.prog.info? 114).map (fun i => (i.zero, i.size, i.bytes)) = some (some (.agg #[.slice none 0 0, .slice none 0 0, .slice none 0 0, .slice none 0 0, .slice none 0 0, .slice none 0 0, .slice none 0 0, .slice none 0 0]), 8, 192) := by kernel_rfl

theorem madeFan (k : Nat) : (madeCells (Value.agg #[.slice none 0 0, .slice none 0 0, .slice none 0 0, .slice none 0 0, .slice none 0 0, .slice none 0 0, .slice none 0 0, .slice none 0 0]).cells (k * 8)).toList = rowF (k * 8) (fun _ => .slice none 0 0) := by
  refine List.ext_getElem (by simp [madeCells, rowF]) fun i h1 h2 => ?_
  have h8 : i % 8 < 8 := Nat.mod_lt _ (by decide)
  have hd : ∀ r, r < 8 → ([Value.slice none 0 0, .slice none 0 0, .slice none 0 0, .slice none 0 0, .slice none 0 0, .slice none 0 0, .slice none 0 0, .slice none 0 0] : List Value)[r]?.getD default = .slice none 0 0 := fun r hr => by
    match r, hr with
    | 0, _ | 1, _ | 2, _ | 3, _ | 4, _ | 5, _ | 6, _ | 7, _ => rfl
  simp [madeCells, Value.cells, rowF, hd _ h8]

set_option maxRecDepth 100000 in
set_option maxHeartbeats 8000000 in
theorem fansOf_any {w : World} {a : Option Addr} {n c : Nat} {b : Option Addr} {k d : Nat} {m : Syst} (A : SysArg w a n c b k d m) (hv : sysB m = true) :
    Calls Tryz.prog 54 #[.agg #[.slice a n c, .slice b k d]] w fun e w' => ∃ g, e = .returned (.slice (some ⟨g, 0, none⟩) k k) ∧ w.heap.size ≤ g ∧ g < w'.heap.size ∧ FansArg w w' g k m.states ∧ Below w.heap.size w w' := by
  obtain ⟨iF, hiF, hF0, hF1, hF2⟩ := info_parts infoFan
  have HA := Lib.hid A
  have HV := Lib.hid hv
  have hk5 : k ≤ 5000 := by have := ((sysB_iff m).1 hv).2.2.1; have := A.len; omega
  have hna : m.acts.length ≤ 8 := ((actsB_iff m.acts).1 ((sysB_iff m).1 hv).1).1
  have HK := Lib.hid A.len
  have hb0 := (Below.refl w.heap.size w).alloc (Nat.le_refl _) (.cells #[.slice a n c, .slice b k d] 25)
  have hw0 := Whole.new w 25 #[.slice a n c, .slice b k d]
  have HB0 := Lib.hid hb0
  have HW0 := Lib.hid hw0
  clear A hv hb0 hw0
  go_enter Tryz.func54, Tryz.ntmps54
  go_wp2_with (at_make; refine wpList_make_full _ rfl _ _ 105 rfl (w.heap.size + 1) 114 iF (.agg #[.slice none 0 0, .slice none 0 0, .slice none 0 0, .slice none 0 0, .slice none 0 0, .slice none 0 0, .slice none 0 0, .slice none 0 0]) 8 Tryz.underlying105 hiF hF0 hF1 .i64 .i64 k k k rfl rfl rfl rfl (by rw [hF2]; omega) (by unfold maxLen; omega) (by simp) ?_; intro w1 hrow hg1; refine Hid.out ?_)
  refine Lib.hid ?_
  rw [madeFan] at hrow
  have hb1 : Below (w.heap.size + 1) (w.alloc (.cells #[.slice a n c, .slice b k d] 25)) w1 := (Below.refl _ _).grown hg1 (by simp) (fun k hk => by cases hk)
  simp only [World.size_alloc] at hrow
  have hw1 := HW0.out.below hb1 (by omega)
  have q1 := hw1.cell 1
  simp only [List.getElem?_toArray, List.getElem?_cons_succ, List.getElem?_cons_zero] at q1
  have HB1 := Lib.hid hb1
  have HRow := Lib.hid hrow
  have HFirst : Hid (∀ x, x < k → ∀ a, a < 8 → ∃ ai ni ci, (fun _ : Nat => Value.slice none 0 0) (x * 8 + a) = .slice ai ni ci ∧ EdgeArg w ai ni ci (if x < 0 then fanL (stAt m.states x) a else [])) := Lib.hid fun x _ a _ => ⟨none, 0, 0, rfl, (fun _ => rfl), rfl, Nat.le_refl _, by omega, fun j hj => by simp at hj⟩
  clear hrow hg1 hb1 hw1
  go_wp2
  go_loopw [4, 5, 6, 7, 8, 16, 23] (fun _ _ _ _ _ i _ wr => ∃ (x : Nat) (F : Nat → Value), x ≤ k ∧ i = .int .i64 x ∧ wr.ownsRow (w.heap.size + 1) 114 8 (.slice (some ⟨w.heap.size + 1, 0, none⟩) k k) k (rowF (k * 8) F) ∧ Hid (∀ z, z < k → ∀ a, a < 8 → ∃ ai ni ci, F (z * 8 + a) = .slice ai ni ci ∧ EdgeArg w ai ni ci (if z < x then fanL (stAt m.states z) a else [])) ∧ Below (w.heap.size + 1) (w.alloc (.cells #[.slice a n c, .slice b k d] 25)) wr) (fun _ _ _ _ _ i _ _ => k - (intOf i).toNat)
  case atStart => exact ⟨0, _, Nat.zero_le _, rfl, HRow.out, HFirst, HB1.out⟩
  case round =>
    obtain ⟨v0, hv0⟩ : ∃ z, z = wr := ⟨_, rfl⟩
    subst hv0
    obtain ⟨x, F, hx, rfl, hown, hF, hb⟩ := hrel
    have HOwn := Lib.hid hown
    have HB := Lib.hid hb
    have HBw := Lib.hid (HB0.out.trans (hb.mono (by omega)))
    clear hown hb
    by_cases hlt : x < k
    · obtain ⟨bb, off, rfl, ai, ni, ci, c0, hE⟩ := HA.out.rows x (by have := HK.out; omega)
      have c2 := (HBw.out.cell (lt_of_cell c0)).trans c0
      have HE := Lib.hid hE
      have hni : ni ≤ 140737488355328 := by have := hE.cap; have := hE.big; omega
      have hnc : ni ≤ ci := hE.cap
      have hx0 : (0 : Int) ≤ (x : Int) := by omega
      have hx1 : (x : Int) < (k : Int) := by omega
      have hxk : x < m.states.length := by have := HK.out; omega
      have HRise := Lib.hid (edges_rise (((sysB_iff m).1 HV.out).2.2.2.1 x hxk))
      obtain ⟨l, HLl⟩ : ∃ l, Hid (stAt m.states x = l) := ⟨_, Lib.hid rfl⟩
      have HOK : Hid (∀ j, j < l.length → ∃ u v : Nat, (edAt l j).1 = (u : Int) ∧ (edAt l j).2 = (v : Int) ∧ u < 8) := Lib.hid fun j hj => by
        rw [← HLl.out] at hj ⊢
        have hok : okE m.acts.length m.states.length (edAt (stAt m.states x) j) = true := edge_in (((sysB_iff m).1 HV.out).2.2.2.1 x hxk) (by unfold edAt; rw [List.getD_eq_getElem?_getD, List.getElem?_eq_getElem hj]; exact List.getElem_mem hj)
        have hok2 := (okE_iff _ _ _).1 hok
        obtain ⟨u, hu⟩ := Int.eq_ofNat_of_zero_le hok2.1
        obtain ⟨v, hv⟩ := Int.eq_ofNat_of_zero_le hok2.2.2.1
        exact ⟨u, v, hu, hv, by omega⟩
      rw [HLl.out] at HRise HE
      have HNi : Hid (ni = l.length) := Lib.hid HE.out.len
      clear hE c0 hxk
      go_wp2
      go_loopw [6, 7, 8, 23] (fun f _ _ i wr => ∃ (t fr : Nat) (G : Nat → Value), t ≤ ni ∧ fr ≤ t ∧ i = .int .i64 t ∧ f = .int .i64 fr ∧ wr.ownsRow (w.heap.size + 1) 114 8 (.slice (some ⟨w.heap.size + 1, 0, none⟩) k k) k (rowF (k * 8) G) ∧ Hid ((∀ z, z < k → ∀ a, a < 8 → ∃ ai ni ci, G (z * 8 + a) = .slice ai ni ci ∧ EdgeArg w ai ni ci (if z < x then fanL (stAt m.states z) a else if z = x then fanL (l.take fr) a else [])) ∧ (∀ j, fr ≤ j → j ≤ t → j < ni → (edAt l j).1 = (edAt l fr).1) ∧ (0 < fr → fr < ni → (edAt l (fr - 1)).1 ≠ (edAt l fr).1) ∧ (t = ni → fr = ni)) ∧ Below (w.heap.size + 1) (w.alloc (.cells #[.slice a n c, .slice (some ⟨bb, off, none⟩) k d] 25)) wr) (fun _ _ _ i _ => ni - (intOf i).toNat)
      case atStart => exact ⟨0, 0, F, Nat.zero_le _, Nat.le_refl _, rfl, rfl, HOwn.out, Lib.hid ⟨fun z hz a ha => by
          obtain ⟨ai, ni, ci, h1, h2⟩ := hF.out z hz a ha
          refine ⟨ai, ni, ci, h1, ?_⟩
          by_cases hzx : z < x
          · rw [if_pos hzx] at h2 ⊢; exact h2
          · rw [if_neg hzx] at h2 ⊢
            by_cases hze : z = x
            · rw [if_pos hze]; simpa [fanL] using h2
            · rw [if_neg hze]; exact h2, fun j h1 h2 _ => by rw [show j = 0 by omega], fun h => by omega, fun h => h⟩, HB.out⟩
      case round =>
        obtain ⟨t, fr, G, ht, hft, rfl, rfl, hown2, hI, hb2⟩ := hrel
        have HOwn2 := Lib.hid hown2
        have HB2 := Lib.hid hb2
        have HBw2 := Lib.hid (HB0.out.trans (hb2.mono (by omega)))
        clear hown2 hb2
        by_cases hlt2 : t < ni
        · obtain ⟨be, oe, rfl, d1, d2⟩ := (HE.out.cells.below HBw2.out) t (by have := HNi.out; omega)
          obtain ⟨u, v, hu, hv, hu8⟩ := HOK.out t (by have := HNi.out; omega)
          have HU := Lib.hid hu
          rw [hu] at d1
          rw [hv] at d2
          have hu0 : (0 : Int) ≤ (u : Int) := by omega
          have hu1 : (u : Int) < 8 := by omega
          have hwr1 : IntKind.i64.wrap ((t : Int) + 1) = (t : Int) + 1 := IntWalk.i64_in _ (by omega)
          have HBe := Lib.hid (HB2.out.alloc (Nat.le_trans (by simp) HB2.out.size) (.cells #[.int .i64 u, .int .i64 v] 87))
          have HOe := Lib.hid (HOwn2.out.alloc (.cells #[.int .i64 u, .int .i64 v] 87))
          obtain ⟨a', hcut, hcutA⟩ := cutE HE.out fr (t + 1) (by omega) (by omega)
          simp only [Int.natCast_add, Int.natCast_one] at hcut
          obtain ⟨a3, n3, c3, hG3, _⟩ := hI.out.1 x hlt u hu8
          have hflat : x * 8 + u < k * 8 := by omega
          have k1 := World.ownsRow.cellAt HOe.out (x * 8 + u) hflat
          rw [rowF_at _ hflat, hG3] at k1
          have k2 := World.ownsRow.frozenAt HOe.out (x * 8 + u)
          have HSeg : Hid (fanL (l.take (t + 1)) u = (l.drop fr).take (t + 1 - fr) ∧ ∀ a, a ≠ u → fanL (l.take (t + 1)) a = fanL (l.take fr) a) := Lib.hid (by
            have hfu : (edAt l fr).1 = (u : Int) := by rw [← hI.out.2.1 t hft (Nat.le_refl _) hlt2]; exact HU.out
            refine fan_seg hft (by have := HNi.out; omega) (fun j h1 h2 => by rw [hI.out.2.1 j h1 h2 (by omega)]; exact hfu) (fun j h1 => ?_)
            have h3 := HRise.out j (fr - 1) (by omega) (by have := HNi.out; omega)
            have h4 := HRise.out (fr - 1) fr (by omega) (by have := HNi.out; omega)
            have h5 := hI.out.2.2.1 (by omega) (by omega)
            omega)
          have HSt : Hid (((wr.alloc (.cells #[.int .i64 u, .int .i64 v] 87)).setCell ⟨w.heap.size + 1, x * 8 + u, none⟩ (.slice a' (t + 1 - fr) (ci - fr))).ownsRow (w.heap.size + 1) 114 8 (.slice (some ⟨w.heap.size + 1, 0, none⟩) k k) k (rowF (k * 8) (fun y => if y = x * 8 + u then .slice a' (t + 1 - fr) (ci - fr) else G y))) := Lib.hid (by
            have h1 := (World.ownsRow.stored HOe.out (x * 8 + u) (.slice a' (t + 1 - fr) (ci - fr))).1
            rwa [rowF_set _ _ hflat] at h1)
          have HFn : Hid (∀ z, z < k → ∀ a, a < 8 → ∃ ai ni ci', (fun y => if y = x * 8 + u then Value.slice a' (t + 1 - fr) (ci - fr) else G y) (z * 8 + a) = .slice ai ni ci' ∧ EdgeArg w ai ni ci' (if z < x then fanL (stAt m.states z) a else if z = x then fanL (l.take (t + 1)) a else [])) := Lib.hid fun z hz a ha => by
            by_cases e : z * 8 + a = x * 8 + u
            · obtain ⟨rfl, rfl⟩ : z = x ∧ a = u := by omega
              refine ⟨a', _, _, if_pos rfl, ?_⟩
              rw [if_neg (by omega), if_pos rfl, HSeg.out.1]
              exact hcutA
            · obtain ⟨ai, n4, ci4, g1, g2⟩ := hI.out.1 z hz a ha
              refine ⟨ai, n4, ci4, (if_neg e).trans g1, ?_⟩
              by_cases hzx : z < x
              · rw [if_pos hzx] at g2 ⊢; exact g2
              · rw [if_neg hzx] at g2 ⊢
                by_cases hze : z = x
                · rw [if_pos hze] at g2 ⊢
                  rw [HSeg.out.2 a (by intro h; exact e (by rw [hze, h]))]
                  exact g2
                · rw [if_neg hze] at g2 ⊢; exact g2
          have HCut := Lib.hid hcutA
          clear hu hv hcutA hG3
          by_cases hend : t + 1 = ni
          · have hq : (((t : Int) + 1) == (ni : Int)) = true := by rw [beq_iff_eq]; omega
            have HI2 : Hid ((∀ z, z < k → ∀ a, a < 8 → ∃ ai ni ci', (fun y => if y = x * 8 + u then Value.slice a' (t + 1 - fr) (ci - fr) else G y) (z * 8 + a) = .slice ai ni ci' ∧ EdgeArg w ai ni ci' (if z < x then fanL (stAt m.states z) a else if z = x then fanL (l.take (t + 1)) a else [])) ∧ (∀ j, t + 1 ≤ j → j ≤ t + 1 → j < ni → (edAt l j).1 = (edAt l (t + 1)).1) ∧ (0 < t + 1 → t + 1 < ni → (edAt l (t + 1 - 1)).1 ≠ (edAt l (t + 1)).1) ∧ (t + 1 = ni → t + 1 = ni)) := Lib.hid ⟨HFn.out, fun j h1 h2 _ => by rw [show j = t + 1 by omega], (fun _ h => by omega), fun h => h⟩
            clear hend
            go_wp2
            go_quiet (fail)
            go_wp2
            go_region
            all_goals
              go_wp2
              go_roundw
              case rel => exact ⟨t + 1, t + 1, _, by omega, Nat.le_refl _, by go_num, by go_num, HSt.out, HI2, ((below_drewN HBe.out _).setCell (p := ⟨w.heap.size + 1, x * 8 + u, none⟩) (Nat.le_refl _) _)⟩
              case measure => simp [intOf]; omega
          · have hq : (((t : Int) + 1) == (ni : Int)) = false := by rw [beq_eq_false_iff_ne]; omega
            obtain ⟨be', oe', e3, d3, d4⟩ := (HE.out.cells.below HBw2.out) (t + 1) (by have := HNi.out; omega)
            cases e3
            obtain ⟨u', v', hu', hv', hu8'⟩ := HOK.out (t + 1) (by have := HNi.out; omega)
            have HU' := Lib.hid hu'
            rw [hu'] at d3
            have D3 := cell_new d3 (.cells #[.int .i64 u, .int .i64 v] 87)
            have ht0 : (0 : Int) ≤ (t : Int) + 1 := by omega
            have ht1 : (t : Int) + 1 < (ni : Int) := by omega
            clear hu' hv' d4
            by_cases hne : u' = u
            · have hq2 : ((u' : Int) != (u : Int)) = false := by rw [bne_eq_false_iff_eq, hne]
              have HI2 : Hid ((∀ z, z < k → ∀ a, a < 8 → ∃ ai ni ci, G (z * 8 + a) = .slice ai ni ci ∧ EdgeArg w ai ni ci (if z < x then fanL (stAt m.states z) a else if z = x then fanL (l.take fr) a else [])) ∧ (∀ j, fr ≤ j → j ≤ t + 1 → j < ni → (edAt l j).1 = (edAt l fr).1) ∧ (0 < fr → fr < ni → (edAt l (fr - 1)).1 ≠ (edAt l fr).1) ∧ (t + 1 = ni → fr = ni)) := Lib.hid ⟨hI.out.1, fun j h1 h2 h3 => by
                  by_cases e : j = t + 1
                  · rw [e, HU'.out, hne, ← HU.out]; exact hI.out.2.1 t hft (Nat.le_refl _) hlt2
                  · exact hI.out.2.1 j h1 (by omega) h3, hI.out.2.2.1, fun h => by omega⟩
              clear hne
              go_wp2
              go_quiet (fail)
              go_wp2
              go_roundw
              case rel => exact ⟨t + 1, fr, G, by omega, by omega, by go_num, rfl, HOe.out, HI2, below_drewN HBe.out _⟩
              case measure => simp [intOf]; omega
            · have hq2 : ((u' : Int) != (u : Int)) = true := by rw [bne_iff_ne]; omega
              have HI2 : Hid ((∀ z, z < k → ∀ a, a < 8 → ∃ ai ni ci', (fun y => if y = x * 8 + u then Value.slice a' (t + 1 - fr) (ci - fr) else G y) (z * 8 + a) = .slice ai ni ci' ∧ EdgeArg w ai ni ci' (if z < x then fanL (stAt m.states z) a else if z = x then fanL (l.take (t + 1)) a else [])) ∧ (∀ j, t + 1 ≤ j → j ≤ t + 1 → j < ni → (edAt l j).1 = (edAt l (t + 1)).1) ∧ (0 < t + 1 → t + 1 < ni → (edAt l (t + 1 - 1)).1 ≠ (edAt l (t + 1)).1) ∧ (t + 1 = ni → t + 1 = ni)) := Lib.hid ⟨HFn.out, fun j h1 h2 _ => by rw [show j = t + 1 by omega], (fun _ _ => by rw [Nat.add_sub_cancel, HU.out, HU'.out]; omega), fun h => h⟩
              clear hne
              go_wp2
              go_quiet (fail)
              go_wp2
              go_region
              all_goals
                go_wp2
                go_roundw
                case rel => exact ⟨t + 1, t + 1, _, by omega, Nat.le_refl _, by go_num, by go_num, HSt.out, HI2, ((below_drewN HBe.out _).setCell (p := ⟨w.heap.size + 1, x * 8 + u, none⟩) (Nat.le_refl _) _)⟩
                case measure => simp [intOf]; omega
        · have hte : t = ni := by omega
          have hfe : fr = ni := hI.out.2.2.2 hte
          have HG : Hid (∀ z, z < k → ∀ a, a < 8 → ∃ ai ni ci, G (z * 8 + a) = .slice ai ni ci ∧ EdgeArg w ai ni ci (if z < x + 1 then fanL (stAt m.states z) a else [])) := Lib.hid fun z hz a ha => by
            obtain ⟨ai, n2, ci, h1, h2⟩ := hI.out.1 z hz a ha
            refine ⟨ai, n2, ci, h1, ?_⟩
            by_cases hzx : z < x
            · rw [if_pos hzx] at h2; rw [if_pos (by omega)]; exact h2
            · rw [if_neg hzx] at h2
              by_cases hze : z = x
              · rw [if_pos hze, List.take_of_length_le (by have := HNi.out; omega), ← HLl.out] at h2
                rw [if_pos (by omega), hze]
                exact h2
              · rw [if_neg hze] at h2; rw [if_neg (by omega)]; exact h2
          go_wp2
          go_roundw
          case rel => exact ⟨x + 1, G, by omega, by go_num, HOwn2.out, HG, HB2.out⟩
          case measure => simp [intOf]; omega
    · have HG : Hid (FansArg w v0 (w.heap.size + 1) k m.states) := Lib.hid ⟨fun z hz a ha => by
        obtain ⟨ai, n2, ci, h1, h2⟩ := hF.out z hz a ha
        rw [if_pos (by omega)] at h2
        refine ⟨ai, n2, ci, ?_, h2⟩
        rw [World.ownsRow.cellAt HOwn.out (z * 8 + a) (by omega), rowF_at _ (by omega), h1]⟩
      have hgl := (HOwn.out.lt _ rfl).2
      go_wp2
      go_ret
      exact ⟨_, rfl, by omega, hgl, HG.out, HBw.out⟩
end Go.Proofs.YtgnbkepdbdgkdaaGreatDoor
/- Plain facts: the pairs of states of two systems that can be reached, in the order in which they are met, and the edges between them; nothing here is about a program. -/
namespace Go.Proofs.YtgnbkepdbdgkdaaGreatDoor
open Go Go.Lib Pl

abbrev P2 := Nat × Nat
/-- an edge between pairs: its action, and the pair of the targets -/
abbrev Jn := Int × P2
def pAdd (l : List P2) (y : P2) : List P2 := if y ∈ l then l else l ++ [y]
theorem pAdd_mem (l : List P2) (y z : P2) : z ∈ pAdd l y ↔ z ∈ l ∨ z = y := by
  unfold pAdd
  split
  · rename_i h
    constructor
    · exact .inl
    · rintro (h1 | rfl)
      · exact h1
      · exact h
  · simp
theorem pAdd_nodup {l : List P2} (h : l.Nodup) (y : P2) : (pAdd l y).Nodup := by
  unfold pAdd
  split
  · exact h
  · rename_i hn
    rw [List.nodup_append]
    refine ⟨h, by simp, ?_⟩
    intro a ha b hb e
    rw [List.mem_singleton] at hb
    subst hb
    subst e
    exact hn ha
theorem pAdd_pre (l : List P2) (y : P2) : l <+: pAdd l y := by
  unfold pAdd
  split
  · exact List.prefix_refl _
  · exact List.prefix_append _ _
theorem pAdd_len (l : List P2) (y : P2) : (pAdd l y).length ≤ l.length + 1 := by
  unfold pAdd
  split
  · omega
  · simp
theorem pAdd_self (l : List P2) (y : P2) : y ∈ pAdd l y := (pAdd_mem l y y).2 (.inr rfl)
theorem pAdd_idx {l : List P2} {x : P2} (h : x ∈ l) (y : P2) : (pAdd l y).idxOf x = l.idxOf x := by
  unfold pAdd
  split
  · rfl
  · rw [List.idxOf_append, if_pos h]
theorem pre_idx {l L : List P2} (h : l <+: L) {y : P2} (hy : y ∈ l) : L.idxOf y = l.idxOf y := by
  obtain ⟨t, rfl⟩ := h
  rw [List.idxOf_append, if_pos hy]
theorem pre_getD {l L : List P2} (h : l <+: L) {r : Nat} (hr : r < l.length) : L.getD r (0, 0) = l.getD r (0, 0) := by
  obtain ⟨t, rfl⟩ := h
  rw [List.getD_eq_getElem?_getD, List.getElem?_append_left hr, List.getD_eq_getElem?_getD]
/-- behind some edges -/
def prE (L : List P2) (js : List Jn) : List P2 := js.foldl (fun L e => pAdd L e.2) L
theorem prE_app (L : List P2) (a b : List Jn) : prE L (a ++ b) = prE (prE L a) b := by simp [prE]
theorem prE_snoc (L : List P2) (a : List Jn) (e : Jn) : prE L (a ++ [e]) = pAdd (prE L a) e.2 := by simp [prE]
theorem prE_pre : ∀ (js : List Jn) (L : List P2), L <+: prE L js
  | [], _ => List.prefix_refl _
  | e :: js, L => (pAdd_pre L _).trans (prE_pre js (pAdd L e.2))
theorem prE_nodup : ∀ (js : List Jn) {L : List P2}, L.Nodup → (prE L js).Nodup
  | [], _, h => h
  | e :: js, _, h => prE_nodup js (pAdd_nodup h e.2)
theorem prE_mem (z : P2) : ∀ (js : List Jn) (L : List P2), z ∈ prE L js ↔ z ∈ L ∨ ∃ e ∈ js, e.2 = z
  | [], _ => by simp [prE]
  | e :: js, L => by
    have ih := prE_mem z js (pAdd L e.2)
    have e1 : prE L (e :: js) = prE (pAdd L e.2) js := rfl
    rw [e1, ih, pAdd_mem]
    simp only [List.mem_cons, exists_eq_or_imp, or_assoc]
    constructor
    · rintro (h | h | h)
      · exact .inl h
      · exact .inr (.inl h.symm)
      · exact .inr (.inr h)
    · rintro (h | h | h)
      · exact .inl h
      · exact .inr (.inl h.symm)
      · exact .inr (.inr h)
theorem prE_len : ∀ (js : List Jn) (L : List P2), (prE L js).length ≤ L.length + js.length
  | [], _ => by simp [prE]
  | e :: js, L => by
    have ih := prE_len js (pAdd L e.2)
    have h1 := pAdd_len L e.2
    have e1 : prE L (e :: js) = prE (pAdd L e.2) js := rfl
    rw [e1, List.length_cons]
    omega
/-- the edges with the numbers of the pairs -/
def prR (L : List P2) (js : List Jn) : List Edg := js.map fun e => (e.1, (((prE L js).idxOf e.2 : Nat) : Int))
theorem prR_len (L : List P2) (js : List Jn) : (prR L js).length = js.length := by simp [prR]
theorem prR_snoc (L : List P2) (a : List Jn) (e : Jn) : prR L (a ++ [e]) = prR L a ++ [(e.1, (((pAdd (prE L a) e.2).idxOf e.2 : Nat) : Int))] := by
  unfold prR
  rw [prE_snoc, List.map_append]
  congr 1
  refine List.map_congr_left fun x hx => ?_
  rw [pAdd_idx ((prE_mem _ _ _).2 (.inr ⟨x, hx, rfl⟩))]
/-! ### the edges of a pair of states -/
def jRow (a : Nat) (fk : List Edg) (d : Edg) : List Jn := fk.map fun e => ((a : Int), (d.2.toNat, e.2.toNat))
def jntD (a : Nat) (fl fk : List Edg) : List Jn := fl.flatMap (jRow a fk)
def jnt (l k : List Edg) : Nat → List Jn
  | 0 => []
  | a + 1 => jnt l k a ++ jntD a (fanL l a) (fanL k a)
theorem jRow_next (a : Nat) {fk : List Edg} {d : Edg} {j : Nat} (h : j < fk.length) : jRow a (fk.take (j + 1)) d = jRow a (fk.take j) d ++ [((a : Int), (d.2.toNat, (edAt fk j).2.toNat))] := by
  unfold jRow
  rw [take_next fk j (0, 0) h, List.map_append]
  rfl
theorem jntD_next (a : Nat) {fl fk : List Edg} {i : Nat} (h : i < fl.length) : jntD a (fl.take (i + 1)) fk = jntD a (fl.take i) fk ++ jRow a fk (edAt fl i) := by
  unfold jntD
  rw [take_next fl i (0, 0) h, List.flatMap_append]
  simp [edAt]
theorem jRow_len (a : Nat) (fk : List Edg) (d : Edg) : (jRow a fk d).length = fk.length := by simp [jRow]
theorem jntD_len (a : Nat) (fk : List Edg) : ∀ (fl : List Edg), (jntD a fl fk).length = fl.length * fk.length
  | [] => by simp [jntD]
  | d :: fl => by
    have ih := jntD_len a fk fl
    have e : jntD a (d :: fl) fk = jRow a fk d ++ jntD a fl fk := rfl
    rw [e, List.length_append, ih, jRow_len, List.length_cons, Nat.succ_mul]
    omega
theorem jnt_len (l k : List Edg) (a : Nat) : (jnt l k (a + 1)).length = (jnt l k a).length + (fanL l a).length * (fanL k a).length := by
  show (jnt l k a ++ jntD a (fanL l a) (fanL k a)).length = _
  rw [List.length_append, jntD_len]
theorem jnt_mem {l k : List Edg} {e : Jn} : ∀ {A : Nat}, e ∈ jnt l k A ↔ ∃ a, a < A ∧ e.1 = (a : Int) ∧ ∃ d ∈ l, d.1 = (a : Int) ∧ ∃ f ∈ k, f.1 = (a : Int) ∧ e.2 = (d.2.toNat, f.2.toNat)
  | 0 => by simp [jnt]
  | A + 1 => by
    have ih := jnt_mem (l := l) (k := k) (e := e) (A := A)
    have e1 : jnt l k (A + 1) = jnt l k A ++ jntD A (fanL l A) (fanL k A) := rfl
    rw [e1, List.mem_append, ih]
    have h2 : e ∈ jntD A (fanL l A) (fanL k A) ↔ e.1 = (A : Int) ∧ ∃ d ∈ l, d.1 = (A : Int) ∧ ∃ f ∈ k, f.1 = (A : Int) ∧ e.2 = (d.2.toNat, f.2.toNat) := by
      unfold jntD jRow
      rw [List.mem_flatMap]
      constructor
      · rintro ⟨d, hd, h⟩
        obtain ⟨f, hf, rfl⟩ := List.mem_map.1 h
        exact ⟨rfl, d, (fanL_mem hd).1, (fanL_mem hd).2, f, (fanL_mem hf).1, (fanL_mem hf).2, rfl⟩
      · rintro ⟨h0, d, hd, hd1, f, hf, hf1, h⟩
        refine ⟨d, List.mem_filter.2 ⟨hd, by simpa using hd1⟩, List.mem_map.2 ⟨f, List.mem_filter.2 ⟨hf, by simpa using hf1⟩, ?_⟩⟩
        exact Prod.ext h0.symm h.symm
    rw [h2]
    constructor
    · rintro (⟨a, ha, h⟩ | h)
      · exact ⟨a, by omega, h⟩
      · exact ⟨A, by omega, h⟩
    · rintro ⟨a, ha, h⟩
      by_cases e9 : a = A
      · subst e9; exact .inr h
      · exact .inl ⟨a, by omega, h⟩
/-- the way of the reference -/
def jntR (l k : List Edg) : List Jn := l.flatMap fun d => (k.filter fun e => decide (e.1 = d.1)).map fun e => (d.1, (d.2.toNat, e.2.toNat))
theorem rise_of {na ns : Nat} {l : List Edg} (h : edgesB na ns l = true) : Rise l := by
  have h1 := (edgesB_iff na ns l).1 h
  have h2 : ∀ k, k + 1 < l.length → ltE (edAt l k) (edAt l (k + 1)) = true := fun k hk => by
    cases h9 : ltE (edAt l k) (edAt l (k + 1))
    · have := edgeB_back (na := na) (ns := ns) (l := l) (k := k + 1) (by omega) (by simpa using h9)
      rw [h1 (k + 1) hk] at this
      cases this
    · rfl
  have h3 : ∀ d k, k + d + 1 < l.length → ltE (edAt l k) (edAt l (k + d + 1)) = true := fun d => by
    induction d with
    | zero => intro k hk; exact h2 k hk
    | succ d ih =>
      intro k hk
      exact lt_trans_E (ih k (by omega)) (h2 (k + d + 1) hk)
  unfold Rise
  rw [List.pairwise_iff_getElem]
  intro i j hi hj hij
  have h4 := h3 (j - i - 1) i (by omega)
  rw [show i + (j - i - 1) + 1 = j by omega] at h4
  have e1 : edAt l i = l[i] := by simp [edAt, List.getD, hi]
  have e2 : edAt l j = l[j] := by simp [edAt, List.getD, hj]
  rw [e1, e2] at h4
  exact h4
def fans (l : List Edg) : Nat → List Edg
  | 0 => []
  | a + 1 => fans l a ++ fanL l a
theorem fans_mem {l : List Edg} {e : Edg} : ∀ {A : Nat}, e ∈ fans l A ↔ e ∈ l ∧ ∃ a, a < A ∧ e.1 = (a : Int)
  | 0 => by simp [fans]
  | A + 1 => by
    have ih := fans_mem (l := l) (e := e) (A := A)
    have e1 : fans l (A + 1) = fans l A ++ fanL l A := rfl
    rw [e1, List.mem_append, ih]
    constructor
    · rintro (⟨h, a, ha, h2⟩ | h)
      · exact ⟨h, a, by omega, h2⟩
      · exact ⟨(fanL_mem h).1, A, by omega, (fanL_mem h).2⟩
    · rintro ⟨h, a, ha, h2⟩
      by_cases e9 : a = A
      · subst e9
        exact .inr (List.mem_filter.2 ⟨h, by simpa using h2⟩)
      · exact .inl ⟨h, a, by omega, h2⟩
theorem fans_rise {l : List Edg} (h : Rise l) : ∀ A, Rise (fans l A)
  | 0 => List.Pairwise.nil
  | A + 1 => by
    have e1 : fans l (A + 1) = fans l A ++ fanL l A := rfl
    unfold Rise
    rw [e1, List.pairwise_append]
    refine ⟨fans_rise h A, List.Pairwise.filter _ h, fun x hx y hy => ?_⟩
    obtain ⟨_, a, ha, h2⟩ := fans_mem.1 hx
    have h3 := (fanL_mem hy).2
    rw [ltE_iff]
    omega
theorem fans_all {l : List Edg} (h : Rise l) {A : Nat} (hA : ∀ e ∈ l, 0 ≤ e.1 ∧ e.1 < (A : Int)) : fans l A = l :=
  rise_eq _ _ (fans_rise h A) h fun x => by
    rw [fans_mem]
    constructor
    · exact fun h => h.1
    · intro hx
      have := hA x hx
      exact ⟨hx, x.1.toNat, by omega, by omega⟩
theorem jnt_fans (l k : List Edg) : ∀ A, jnt l k A = jntR (fans l A) k
  | 0 => rfl
  | A + 1 => by
    have ih := jnt_fans l k A
    have e1 : fans l (A + 1) = fans l A ++ fanL l A := rfl
    have e2 : jnt l k (A + 1) = jnt l k A ++ jntD A (fanL l A) (fanL k A) := rfl
    rw [e1, e2, ih]
    unfold jntR
    rw [List.flatMap_append]
    congr 1
    have h : ∀ fl : List Edg, (∀ d ∈ fl, d.1 = (A : Int)) → jntD A fl (fanL k A) = fl.flatMap fun d => (k.filter fun e => decide (e.1 = d.1)).map fun e => (d.1, (d.2.toNat, e.2.toNat)) := by
      intro fl
      induction fl with
      | nil => intro _; rfl
      | cons d fl ih =>
        intro hd
        have e3 : jntD A (d :: fl) (fanL k A) = jRow A (fanL k A) d ++ jntD A fl (fanL k A) := rfl
        rw [e3, ih (fun x hx => hd x (List.mem_cons_of_mem _ hx)), List.flatMap_cons]
        congr 1
        have h1 := hd d (by simp)
        unfold jRow fanL
        rw [h1]
    exact h _ (fun d hd => (fanL_mem hd).2)
theorem jnt_eq {l k : List Edg} (h : Rise l) {A : Nat} (hA : ∀ e ∈ l, 0 ≤ e.1 ∧ e.1 < (A : Int)) : jnt l k A = jntR l k := by
  rw [jnt_fans, fans_all h hA]
theorem jntR_nodup {l k : List Edg} (hl : l.Nodup) (hk : k.Nodup) (h1 : ∀ e ∈ l, 0 ≤ e.2) (h2 : ∀ e ∈ k, 0 ≤ e.2) : (jntR l k).Nodup := by
  induction l with
  | nil => exact List.nodup_nil
  | cons d l ih =>
    have e1 : jntR (d :: l) k = ((k.filter fun e => decide (e.1 = d.1)).map fun e => (d.1, (d.2.toNat, e.2.toNat))) ++ jntR l k := rfl
    have hl' := List.nodup_cons.1 hl
    rw [e1, List.nodup_append]
    refine ⟨?_, ih hl'.2 (fun e he => h1 e (List.mem_cons_of_mem _ he)), ?_⟩
    · unfold List.Nodup
      rw [List.pairwise_map]
      refine ((hk.filter _).imp_of_mem fun {a b} ha hb hab h9 => hab ?_)
      rw [List.mem_filter, decide_eq_true_eq] at ha hb
      simp only [Prod.mk.injEq, true_and] at h9
      have := h2 a ha.1
      have := h2 b hb.1
      exact Prod.ext (by rw [ha.2, hb.2]) (by omega)
    · intro x hx y hy e9
      subst e9
      obtain ⟨f, hf, rfl⟩ := List.mem_map.1 hx
      unfold jntR at hy
      obtain ⟨d', hd', hy⟩ := List.mem_flatMap.1 hy
      obtain ⟨f', hf', e9⟩ := List.mem_map.1 hy
      simp only [Prod.mk.injEq] at e9
      have := h1 d (by simp)
      have := h1 d' (List.mem_cons_of_mem _ hd')
      have e10 : d' = d := Prod.ext e9.1 (by omega)
      exact hl'.1 (e10 ▸ hd')

/-! ### the product -/
def jAt (m n : Syst) (p : P2) : List Jn := jnt (stAt m.states p.1) (stAt n.states p.2) 8
def prQ (m n : Syst) : Nat → List P2
  | 0 => [(0, 0)]
  | i + 1 => prE (prQ m n i) (jAt m n ((prQ m n i).getD i (0, 0)))
def pAt (m n : Syst) (i : Nat) : P2 := (prQ m n i).getD i (0, 0)
theorem prQ_succ (m n : Syst) (i : Nat) : prQ m n (i + 1) = prE (prQ m n i) (jAt m n (pAt m n i)) := rfl
def prN (m n : Syst) : Nat → Nat
  | 0 => 0
  | i + 1 => prN m n i + (jAt m n (pAt m n i)).length
def prRow (m n : Syst) (r : Nat) : List Edg := sortEd (prR (prQ m n r) (jAt m n (pAt m n r)))
def prRows (m n : Syst) (i : Nat) : List (List Edg) := (List.range i).map (prRow m n)
theorem prRows_len (m n : Syst) (i : Nat) : (prRows m n i).length = i := by simp [prRows]
theorem prRows_succ (m n : Syst) (i : Nat) : prRows m n (i + 1) = prRows m n i ++ [prRow m n i] := by
  unfold prRows
  rw [List.range_succ, List.map_append]
  rfl
theorem prRows_take (m n : Syst) (i : Nat) : (prRows m n (i + 1)).take i = (prRows m n i).take i := by
  rw [prRows_succ, List.take_append_of_le_length (by rw [prRows_len]; exact Nat.le_refl _)]
theorem prRows_at {m n : Syst} {i r : Nat} (h : r < i) : stAt (prRows m n i) r = prRow m n r := by
  unfold stAt prRows
  rw [List.getD_eq_getElem?_getD, List.getElem?_map, List.getElem?_range h]
  rfl
theorem prRow_len (m n : Syst) (r : Nat) : (prRow m n r).length = (jAt m n (pAt m n r)).length := by
  unfold prRow sortEd
  rw [List.length_mergeSort, prR_len]
theorem prRows_total (m n : Syst) : ∀ i, total (prRows m n i) = prN m n i
  | 0 => rfl
  | i + 1 => by
    rw [prRows_succ, total_snoc, prRows_total m n i, prRow_len]
    rfl
/-- the first i pairs are there, and it has not become too large -/
def PStp (m n : Syst) (i : Nat) : Prop := ∀ j, j < i → j < (prQ m n j).length ∧ prN m n (j + 1) ≤ 400000 ∧ (prQ m n (j + 1)).length ≤ 5000
def PrOk (m n : Syst) (i : Nat) : Prop := PStp m n i ∧ (prQ m n i).length = i
def PrBad (m n : Syst) (i : Nat) : Prop := PStp m n i ∧ i < (prQ m n i).length ∧ (400000 < prN m n (i + 1) ∨ 5000 < (prQ m n (i + 1)).length)
theorem pr_once {m n : Syst} {i j : Nat} (h : PrOk m n i) (h' : PrOk m n j) : i = j := by
  rcases Nat.lt_trichotomy i j with q | q | q
  · have := (h'.1 i q).1
    have := h.2
    omega
  · exact q
  · have := (h.1 j q).1
    have := h'.2
    omega
theorem pr_not {m n : Syst} {i j : Nat} (h : PrOk m n i) (h' : PrBad m n j) : False := by
  rcases Nat.lt_trichotomy i j with q | q | q
  · have := (h'.1 i q).1
    have := h.2
    omega
  · subst q
    have := h.2
    have := h'.2.1
    omega
  · have := h.1 j q
    rcases h'.2.2 with h9 | h9 <;> omega
theorem pstp_next {m n : Syst} {i : Nat} (h : PStp m n i) (h1 : i < (prQ m n i).length) (h2 : prN m n (i + 1) ≤ 400000) (h3 : (prQ m n (i + 1)).length ≤ 5000) : PStp m n (i + 1) := fun j hj => by
  rcases Nat.lt_or_ge j i with q | q
  · exact h j q
  · obtain rfl : j = i := by omega
    exact ⟨h1, h2, h3⟩
theorem prQ_pre (m n : Syst) (i : Nat) : ∀ k, prQ m n i <+: prQ m n (i + k)
  | 0 => List.prefix_refl _
  | k + 1 => (prQ_pre m n i k).trans (prE_pre _ _)
/-- states of both, each pair once -/
structure PIn (m n : Syst) (L : List P2) : Prop where
  nodup : L.Nodup
  low : ∀ p ∈ L, p.1 < m.states.length ∧ p.2 < n.states.length
theorem edgeP_in {m : Syst} (hm : sysB m = true) {x : Nat} (hx : x < m.states.length) {e : Edg} (he : e ∈ stAt m.states x) : 0 ≤ e.1 ∧ e.1 < m.acts.length ∧ 0 ≤ e.2 ∧ e.2 < m.states.length := by
  obtain ⟨q, hq, rfl⟩ := List.getElem_of_mem he
  have h9 := edge_ok hm hx hq
  have e9 : edAt (stAt m.states x) q = (stAt m.states x)[q] := by simp [edAt, List.getD, hq]
  rwa [e9] at h9
theorem jAt_in {m n : Syst} (hm : sysB m = true) (hn : sysB n = true) {p : P2} (hp : p.1 < m.states.length ∧ p.2 < n.states.length) : ∀ e ∈ jAt m n p, 0 ≤ e.1 ∧ e.1 < m.acts.length ∧ e.2.1 < m.states.length ∧ e.2.2 < n.states.length := fun e he => by
  obtain ⟨a, ha, h1, d, hd, hd1, f, hf, hf1, h2⟩ := jnt_mem.1 he
  have q1 := edgeP_in hm hp.1 hd
  have q2 := edgeP_in hn hp.2 hf
  rw [h2]
  refine ⟨by omega, by omega, ?_, ?_⟩
  · show d.2.toNat < _
    omega
  · show f.2.toNat < _
    omega
theorem PIn.ext {m n : Syst} {L : List P2} (h : PIn m n L) {js : List Jn} (hj : ∀ e ∈ js, e.2.1 < m.states.length ∧ e.2.2 < n.states.length) : PIn m n (prE L js) :=
  ⟨prE_nodup js h.nodup, fun p hp => by
    rcases (prE_mem p js L).1 hp with h1 | ⟨e, he, rfl⟩
    · exact h.low p h1
    · exact hj e he⟩
theorem pAt_mem {m n : Syst} {i : Nat} (h : i < (prQ m n i).length) : pAt m n i ∈ prQ m n i := by
  unfold pAt
  rw [List.getD_eq_getElem?_getD, List.getElem?_eq_getElem h]
  exact List.getElem_mem h
theorem prQ_in {m n : Syst} (hm : sysB m = true) (hn : sysB n = true) : ∀ i, PStp m n i → PIn m n (prQ m n i)
  | 0, _ => ⟨by simp [prQ], fun p hp => by
      have h1 : p ∈ [((0 : Nat), (0 : Nat))] := hp
      rw [List.mem_singleton] at h1
      subst h1
      exact ⟨((sysB_iff m).1 hm).2.1, ((sysB_iff n).1 hn).2.1⟩⟩
  | i + 1, h => by
    have ih := prQ_in hm hn i (fun j hj => h j (by omega))
    have hi := (h i (by omega)).1
    rw [prQ_succ]
    exact ih.ext (fun e he => by
      have := jAt_in hm hn (ih.low _ (pAt_mem hi)) e he
      exact ⟨this.2.2.1, this.2.2.2⟩)
theorem stAt_rise {m : Syst} (hm : sysB m = true) {x : Nat} (hx : x < m.states.length) : Rise (stAt m.states x) := rise_of (((sysB_iff m).1 hm).2.2.2.1 x hx)
theorem jAt_R {m n : Syst} (hm : sysB m = true) {p : P2} (hp : p.1 < m.states.length) : jAt m n p = jntR (stAt m.states p.1) (stAt n.states p.2) := by
  have h8 : m.acts.length ≤ 8 := ((actsB_iff m.acts).1 ((sysB_iff m).1 hm).1).1
  exact jnt_eq (stAt_rise hm hp) (fun e he => by
    have := edgeP_in hm hp he
    omega)
theorem jAt_nodup {m n : Syst} (hm : sysB m = true) (hn : sysB n = true) {p : P2} (hp : p.1 < m.states.length ∧ p.2 < n.states.length) : (jAt m n p).Nodup := by
  rw [jAt_R hm hp.1]
  exact jntR_nodup (rise_nodup (stAt_rise hm hp.1)) (rise_nodup (stAt_rise hn hp.2)) (fun e he => (edgeP_in hm hp.1 he).2.2.1) (fun e he => (edgeP_in hn hp.2 he).2.2.1)
theorem prR_nodup {L : List P2} {js : List Jn} (h : js.Nodup) : (prR L js).Nodup := by
  unfold prR List.Nodup
  rw [List.pairwise_map]
  refine h.imp_of_mem fun {a b} ha hb hab h9 => hab ?_
  simp only [Prod.mk.injEq] at h9
  have ha2 : a.2 ∈ prE L js := (prE_mem _ _ _).2 (.inr ⟨a, ha, rfl⟩)
  have hb2 : b.2 ∈ prE L js := (prE_mem _ _ _).2 (.inr ⟨b, hb, rfl⟩)
  have h10 : (prE L js).idxOf a.2 = (prE L js).idxOf b.2 := by exact_mod_cast h9.2
  have g1 := List.getElem_idxOf (List.idxOf_lt_length_of_mem ha2)
  have g2 := List.getElem_idxOf (List.idxOf_lt_length_of_mem hb2)
  refine Prod.ext h9.1 ?_
  rw [← g1, ← g2]
  congr 1
theorem sort_mem {l : List Edg} {e : Edg} : e ∈ sortEd l ↔ e ∈ l := (List.mergeSort_perm l _).mem_iff
theorem edgesB_of {na ns : Nat} {l : List Edg} (h : Rise l) (h1 : ∀ e ∈ l, 0 ≤ e.1 ∧ e.1 < na ∧ 0 ≤ e.2 ∧ e.2 < ns) : edgesB na ns l = true := by
  have e0 : ∀ k, (hk : k < l.length) → edAt l k = l[k] := fun k hk => by simp [edAt, List.getD, hk]
  refine edgesB_good fun k hk => ?_
  have hok : okE na ns (edAt l k) = true := by
    rw [okE_iff, e0 k hk]
    exact h1 _ (List.getElem_mem hk)
  cases k with
  | zero => exact edgeB_zero hok
  | succ k =>
    refine edgeB_next hok ?_
    rw [Nat.add_sub_cancel, e0 k (by omega), e0 (k + 1) hk]
    exact (List.pairwise_iff_getElem.1 h) k (k + 1) (by omega) hk (by omega)
/-- the product is valid -/
theorem prod_valid {m n : Syst} (hm : sysB m = true) (hn : sysB n = true) {i : Nat} (h : PrOk m n i) : sysB ⟨m.acts, prRows m n i⟩ = true := by
  have hm' := (sysB_iff m).1 hm
  have h1 : 1 ≤ i := by
    rcases Nat.eq_zero_or_pos i with q | q
    · subst q
      have := h.2
      simp [prQ] at this
    · exact q
  have hj := h.1 (i - 1) (by omega)
  rw [show i - 1 + 1 = i by omega] at hj
  refine sysB_good hm'.1 (by simp only [prRows_len]; exact h1) (by simp only [prRows_len]; have := h.2; omega) ?_ (by show total (prRows m n i) ≤ _; rw [prRows_total]; exact hj.2.1)
  intro r hr
  simp only [prRows_len] at hr ⊢
  rw [prRows_at hr]
  have hr1 := (h.1 r hr).1
  have hin := prQ_in hm hn r (fun j hj => h.1 j (by omega))
  have hp := hin.low _ (pAt_mem hr1)
  refine edgesB_of (sort_rise (prR_nodup (jAt_nodup hm hn hp))) fun e he => ?_
  obtain ⟨x, hx, rfl⟩ := List.mem_map.1 (sort_mem.1 he)
  have h2 := jAt_in hm hn hp x hx
  have h3 : x.2 ∈ prE (prQ m n r) (jAt m n (pAt m n r)) := (prE_mem _ _ _).2 (.inr ⟨x, hx, rfl⟩)
  have h4 := List.idxOf_lt_length_of_mem h3
  have h5 := (prQ_pre m n (r + 1) (i - (r + 1))).length_le
  rw [show r + 1 + (i - (r + 1)) = i by omega, h.2, prQ_succ] at h5
  exact ⟨h2.1, h2.2.1, by omega, by show (((prE (prQ m n r) (jAt m n (pAt m n r))).idxOf x.2 : Nat) : Int) < _; omega⟩
end Go.Proofs.YtgnbkepdbdgkdaaGreatDoor
