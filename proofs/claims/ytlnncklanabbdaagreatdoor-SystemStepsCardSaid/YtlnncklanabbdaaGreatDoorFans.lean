/- system.fansOf: the edges of each state, apart for each action. -/
import Derived.Test.YtlnncklanabbdaaGreatDoorRNext
namespace Go.Proofs.YtlnncklanabbdaaGreatDoor
open Go.RowKit Pl

/-! ### rows of values -/
def rowF (n : Nat) (F : Nat → Value) : List Value := (List.range n).map F
theorem rowF_at {n y : Nat} (F : Nat → Value) (h : y < n) : (rowF n F)[y]? = some (F y) := by simp [rowF, h]
theorem rowF_congr {n : Nat} {F G : Nat → Value} (h : ∀ y, y < n → F y = G y) : rowF n F = rowF n G := List.map_congr_left fun y hy => h y (List.mem_range.1 hy)
theorem rowF_set {n t : Nat} (F : Nat → Value) (v : Value) (ht : t < n) : (rowF n F).set t v = rowF n (fun y => if y = t then v else F y) := by
  refine List.ext_getElem? fun i => ?_
  rw [List.getElem?_set]
  by_cases hi : i < n
  · by_cases e : t = i
    · subst e
      rw [if_pos rfl, if_pos (by simp [rowF]; exact hi), rowF_at _ hi, if_pos rfl]
    · rw [if_neg e, rowF_at F hi, rowF_at _ hi, if_neg (fun h => e h.symm)]
  · rw [List.getElem?_eq_none (by simp [rowF]; omega)]
    by_cases e : t = i
    · omega
    · rw [if_neg e, List.getElem?_eq_none (by simp [rowF]; omega)]
theorem rowF_const (n : Nat) (v : Value) : List.replicate n v = rowF n (fun _ => v) := by
  refine List.ext_getElem (by simp [rowF]) fun i h1 h2 => ?_
  simp [rowF]

/-- the edges with an action -/
def fanL (l : List Edg) (a : Nat) : List Edg := l.filter fun e => decide (e.1 = (a : Int))
theorem fanL_mem {l : List Edg} {a : Nat} {e : Edg} (h : e ∈ fanL l a) : e ∈ l ∧ e.1 = (a : Int) := by
  unfold fanL at h
  rw [List.mem_filter, decide_eq_true_eq] at h
  exact h
theorem leads_fan (l : List Edg) (a y : Nat) : leads l (a : Int) y = (fanL l a).any (fun e => decide (e.2 = (y : Int))) := by
  unfold leads fanL
  rw [List.any_filter]
/-- the actions of the edges rise -/
theorem edges_rise {na ns : Nat} {l : List Edg} (h : edgesB na ns l = true) : ∀ i j, i ≤ j → j < l.length → (edAt l i).1 ≤ (edAt l j).1 := by
  intro i j hij hj
  induction j with
  | zero =>
    obtain rfl : i = 0 := by omega
    exact Int.le_refl _
  | succ j ih =>
    by_cases e : i = j + 1
    · rw [e]; exact Int.le_refl _
    · have h1 := ih (by omega) (by omega)
      have h2 := (edgesB_iff _ _ _).1 h (j + 1) hj
      unfold edgeB at h2
      simp only [Bool.and_eq_true, Bool.or_eq_true, decide_eq_true_eq] at h2
      rcases h2.2 with h3 | h3
      · omega
      · have h4 := (ltE_iff _ _).1 h3
        simp only [Nat.add_sub_cancel] at h4
        omega
theorem fan_seg {l : List Edg} {fr i A : Nat} (h1 : fr ≤ i) (h2 : i < l.length) (hF : ∀ j, fr ≤ j → j ≤ i → (edAt l j).1 = (A : Int)) (hB : ∀ j, j < fr → (edAt l j).1 ≠ (A : Int)) :
    fanL (l.take (i + 1)) A = (l.drop fr).take (i + 1 - fr) ∧ ∀ a, a ≠ A → fanL (l.take (i + 1)) a = fanL (l.take fr) a := by
  have e : l.take (i + 1) = l.take fr ++ (l.drop fr).take (i + 1 - fr) := by
    rw [← List.take_append_drop fr (l.take (i + 1)), List.take_take, List.drop_take, Nat.min_eq_left (by omega)]
  have hm : ∀ x ∈ (l.drop fr).take (i + 1 - fr), x.1 = (A : Int) := by
    intro x hx
    obtain ⟨j, hj, rfl⟩ := List.getElem_of_mem hx
    rw [List.length_take, List.length_drop] at hj
    have := hF (fr + j) (by omega) (by omega)
    unfold edAt at this
    rw [List.getD_eq_getElem?_getD, List.getElem?_eq_getElem (by omega)] at this
    rw [List.getElem_take, List.getElem_drop]
    exact this
  have hn : ∀ x ∈ l.take fr, x.1 ≠ (A : Int) := by
    intro x hx
    obtain ⟨j, hj, rfl⟩ := List.getElem_of_mem hx
    rw [List.length_take] at hj
    have := hB j (by omega)
    unfold edAt at this
    rw [List.getD_eq_getElem?_getD, List.getElem?_eq_getElem (by omega)] at this
    rw [List.getElem_take]
    exact this
  constructor
  · unfold fanL
    rw [e, List.filter_append, List.filter_eq_nil_iff.2 (fun x hx => by simpa using hn x hx), List.filter_eq_self.2 (fun x hx => by simpa using hm x hx), List.nil_append]
  · intro a ha
    have hz : ((l.drop fr).take (i + 1 - fr)).filter (fun e => decide (e.1 = (a : Int))) = [] := List.filter_eq_nil_iff.2 (fun x hx => by rw [hm x hx, decide_eq_true_eq]; omega)
    unfold fanL
    rw [e, List.filter_append, hz, List.append_nil]
/-- 'edges[lo:hi]' -/
theorem cutE {w : World} {a : Option Addr} {n c : Nat} {l : List Edg} (A : EdgeArg w a n c l) (lo hi : Nat) (h1 : lo ≤ hi) (h2 : hi ≤ n) :
    ∃ a', (∀ w', (Instr.slice 77 (.slice a n c) (some (.int .i64 lo)) (some (.int .i64 hi)) none).run Tryz.prog w' = .ok (.slice a' (hi - lo) (c - lo)) w') ∧ EdgeArg w a' (hi - lo) (c - lo) ((l.drop lo).take (hi - lo)) := by
  have h3 := A.cap
  have h4 : (0 : Int) ≤ lo := by omega
  have h5 : (lo : Int) ≤ hi := by omega
  have h6 : (hi : Int) ≤ c := by omega
  refine ⟨if c = lo then a else a.map fun x => x.add (lo * 2), fun w' => by go_simp, fun e => ?_, by rw [List.length_take, List.length_drop, ← A.len]; omega, by omega, by have := A.big; omega, fun j hj => ?_⟩
  · by_cases hc : c = lo
    · omega
    · rw [if_neg hc] at e
      cases a with
      | none => have := A.nil rfl; omega
      | some x => cases e
  · rw [List.length_take, List.length_drop, ← A.len] at hj
    obtain ⟨b, off, rfl, c1, c2⟩ := A.cells (lo + j) (by rw [← A.len]; omega)
    have e : edAt ((l.drop lo).take (hi - lo)) j = edAt l (lo + j) := by
      unfold edAt
      rw [List.getD_eq_getElem?_getD, List.getD_eq_getElem?_getD, List.getElem?_take, if_pos (by omega), List.getElem?_drop]
    rw [e, if_neg (by omega)]
    refine ⟨b, off + lo * 2, by simp [add_plainly], ?_, ?_⟩
    · rw [show off + lo * 2 + j * 2 = off + (lo + j) * 2 by omega]; exact c1
    · rw [show off + lo * 2 + j * 2 + 1 = off + (lo + j) * 2 + 1 by omega]; exact c2

/-- what fansOf hands back: a row of its own, for each state eight slices into the system's memory -/
structure FansArg (w0 w : World) (g k : Nat) (ss : List (List Edg)) : Prop where
  cells : ∀ x, x < k → ∀ a, a < 8 → ∃ ai ni ci, w.cell? ⟨g, x * 8 + a, none⟩ = some (.slice ai ni ci) ∧ EdgeArg w0 ai ni ci (fanL (stAt ss x) a)
theorem FansArg.below {w0 w w' : World} {g k : Nat} {ss : List (List Edg)} {B : Nat} (h : FansArg w0 w g k ss) (hb : Below B w w') (hg : g < B) : FansArg w0 w' g k ss :=
  ⟨fun x hx a ha => by
    obtain ⟨ai, ni, ci, h1, h2⟩ := h.cells x hx a ha
    exact ⟨ai, ni, ci, (hb.cell hg).trans h1, h2⟩⟩
theorem infoFan : (Tryz.prog.info? 115).map (fun i => (i.zero, i.size, i.bytes)) = some (some (.agg #[.slice none 0 0, .slice none 0 0, .slice none 0 0, .slice none 0 0, .slice none 0 0, .slice none 0 0, .slice none 0 0, .slice none 0 0]), 8, 192) := by kernel_rfl

theorem madeFan (k : Nat) : (madeCells (Value.agg #[.slice none 0 0, .slice none 0 0, .slice none 0 0, .slice none 0 0, .slice none 0 0, .slice none 0 0, .slice none 0 0, .slice none 0 0]).cells (k * 8)).toList = rowF (k * 8) (fun _ => .slice none 0 0) := by
  refine List.ext_getElem (by simp [madeCells, rowF]) fun i h1 h2 => ?_
  have h8 : i % 8 < 8 := Nat.mod_lt _ (by decide)
  have hd : ∀ r, r < 8 → ([Value.slice none 0 0, .slice none 0 0, .slice none 0 0, .slice none 0 0, .slice none 0 0, .slice none 0 0, .slice none 0 0, .slice none 0 0] : List Value)[r]?.getD default = .slice none 0 0 := fun r hr => by
    match r, hr with
    | 0, _ | 1, _ | 2, _ | 3, _ | 4, _ | 5, _ | 6, _ | 7, _ => rfl
  simp [madeCells, Value.cells, rowF, hd _ h8]

set_option maxRecDepth 100000 in
set_option maxHeartbeats 8000000 in
theorem fansOf_any {w : World} {a : Option Addr} {n c : Nat} {b : Option Addr} {k d : Nat} {m : Syst} (A : SysArg w a n c b k d m) (hv : sysB m = true) :
    Calls Tryz.prog 70 #[.agg #[.slice a n c, .slice b k d]] w fun e w' => ∃ g, e = .returned (.slice (some ⟨g, 0, none⟩) k k) ∧ w.heap.size ≤ g ∧ g < w'.heap.size ∧ FansArg w w' g k m.states ∧ Below w.heap.size w w' := by
  obtain ⟨iF, hiF, hF0, hF1, hF2⟩ := info_parts infoFan
  have HA := Lib.hid A
  have HV := Lib.hid hv
  have hk5 : k ≤ 5000 := by have := ((sysB_iff m).1 hv).2.2.1; have := A.len; omega
  have hna : m.acts.length ≤ 8 := ((actsB_iff m.acts).1 ((sysB_iff m).1 hv).1).1
  have HK := Lib.hid A.len
  have hb0 := (Below.refl w.heap.size w).alloc (Nat.le_refl _) (.cells #[.slice a n c, .slice b k d] 25)
  have hw0 := Whole.new w 25 #[.slice a n c, .slice b k d]
  have HB0 := Lib.hid hb0
  have HW0 := Lib.hid hw0
  clear A hv hb0 hw0
  go_enter Tryz.func70, Tryz.ntmps70
  go_wp2_with (at_make; refine wpList_make_full _ rfl _ _ 112 rfl (w.heap.size + 1) 115 iF (.agg #[.slice none 0 0, .slice none 0 0, .slice none 0 0, .slice none 0 0, .slice none 0 0, .slice none 0 0, .slice none 0 0, .slice none 0 0]) 8 Tryz.underlying112 hiF hF0 hF1 .i64 .i64 k k k rfl rfl rfl rfl (by rw [hF2]; omega) (by unfold maxLen; omega) (by simp) ?_; intro w1 hrow hg1; refine Hid.out ?_)
  refine Lib.hid ?_
  rw [madeFan] at hrow
  have hb1 : Below (w.heap.size + 1) (w.alloc (.cells #[.slice a n c, .slice b k d] 25)) w1 := (Below.refl _ _).grown hg1 (by simp) (fun k hk => by cases hk)
  simp only [World.size_alloc] at hrow
  have hw1 := HW0.out.below hb1 (by omega)
  have q1 := hw1.cell 1
  simp only [List.getElem?_toArray, List.getElem?_cons_succ, List.getElem?_cons_zero] at q1
  have HB1 := Lib.hid hb1
  have HRow := Lib.hid hrow
  have HFirst : Hid (∀ x, x < k → ∀ a, a < 8 → ∃ ai ni ci, (fun _ : Nat => Value.slice none 0 0) (x * 8 + a) = .slice ai ni ci ∧ EdgeArg w ai ni ci (if x < 0 then fanL (stAt m.states x) a else [])) := Lib.hid fun x _ a _ => ⟨none, 0, 0, rfl, (fun _ => rfl), rfl, Nat.le_refl _, by omega, fun j hj => by simp at hj⟩
  clear hrow hg1 hb1 hw1
  go_wp2
  go_loopw [4, 5, 6, 7, 8, 16, 23] (fun _ _ _ _ _ i _ wr => ∃ (x : Nat) (F : Nat → Value), x ≤ k ∧ i = .int .i64 x ∧ wr.ownsRow (w.heap.size + 1) 115 8 (.slice (some ⟨w.heap.size + 1, 0, none⟩) k k) k (rowF (k * 8) F) ∧ Hid (∀ z, z < k → ∀ a, a < 8 → ∃ ai ni ci, F (z * 8 + a) = .slice ai ni ci ∧ EdgeArg w ai ni ci (if z < x then fanL (stAt m.states z) a else [])) ∧ Below (w.heap.size + 1) (w.alloc (.cells #[.slice a n c, .slice b k d] 25)) wr) (fun _ _ _ _ _ i _ _ => k - (intOf i).toNat)
  case atStart => exact ⟨0, _, Nat.zero_le _, rfl, HRow.out, HFirst, HB1.out⟩
  case round =>
    obtain ⟨v0, hv0⟩ : ∃ z, z = wr := ⟨_, rfl⟩
    subst hv0
    obtain ⟨x, F, hx, rfl, hown, hF, hb⟩ := hrel
    have HOwn := Lib.hid hown
    have HB := Lib.hid hb
    have HBw := Lib.hid (HB0.out.trans (hb.mono (by omega)))
    clear hown hb
    by_cases hlt : x < k
    · obtain ⟨bb, off, rfl, ai, ni, ci, c0, hE⟩ := HA.out.rows x (by have := HK.out; omega)
      have c2 := (HBw.out.cell (lt_of_cell c0)).trans c0
      have HE := Lib.hid hE
      have hni : ni ≤ 140737488355328 := by have := hE.cap; have := hE.big; omega
      have hnc : ni ≤ ci := hE.cap
      have hx0 : (0 : Int) ≤ (x : Int) := by omega
      have hx1 : (x : Int) < (k : Int) := by omega
      have hxk : x < m.states.length := by have := HK.out; omega
      have HRise := Lib.hid (edges_rise (((sysB_iff m).1 HV.out).2.2.2.1 x hxk))
      obtain ⟨l, HLl⟩ : ∃ l, Hid (stAt m.states x = l) := ⟨_, Lib.hid rfl⟩
      have HOK : Hid (∀ j, j < l.length → ∃ u v : Nat, (edAt l j).1 = (u : Int) ∧ (edAt l j).2 = (v : Int) ∧ u < 8) := Lib.hid fun j hj => by
        rw [← HLl.out] at hj ⊢
        have hok : okE m.acts.length m.states.length (edAt (stAt m.states x) j) = true := edge_in (((sysB_iff m).1 HV.out).2.2.2.1 x hxk) (by unfold edAt; rw [List.getD_eq_getElem?_getD, List.getElem?_eq_getElem hj]; exact List.getElem_mem hj)
        have hok2 := (okE_iff _ _ _).1 hok
        obtain ⟨u, hu⟩ := Int.eq_ofNat_of_zero_le hok2.1
        obtain ⟨v, hv⟩ := Int.eq_ofNat_of_zero_le hok2.2.2.1
        exact ⟨u, v, hu, hv, by omega⟩
      rw [HLl.out] at HRise HE
      have HNi : Hid (ni = l.length) := Lib.hid HE.out.len
      clear hE c0 hxk
      go_wp2
      go_loopw [6, 7, 8, 23] (fun f _ _ i wr => ∃ (t fr : Nat) (G : Nat → Value), t ≤ ni ∧ fr ≤ t ∧ i = .int .i64 t ∧ f = .int .i64 fr ∧ wr.ownsRow (w.heap.size + 1) 115 8 (.slice (some ⟨w.heap.size + 1, 0, none⟩) k k) k (rowF (k * 8) G) ∧ Hid ((∀ z, z < k → ∀ a, a < 8 → ∃ ai ni ci, G (z * 8 + a) = .slice ai ni ci ∧ EdgeArg w ai ni ci (if z < x then fanL (stAt m.states z) a else if z = x then fanL (l.take fr) a else [])) ∧ (∀ j, fr ≤ j → j ≤ t → j < ni → (edAt l j).1 = (edAt l fr).1) ∧ (0 < fr → fr < ni → (edAt l (fr - 1)).1 ≠ (edAt l fr).1) ∧ (t = ni → fr = ni)) ∧ Below (w.heap.size + 1) (w.alloc (.cells #[.slice a n c, .slice (some ⟨bb, off, none⟩) k d] 25)) wr) (fun _ _ _ i _ => ni - (intOf i).toNat)
      case atStart => exact ⟨0, 0, F, Nat.zero_le _, Nat.le_refl _, rfl, rfl, HOwn.out, Lib.hid ⟨fun z hz a ha => by
          obtain ⟨ai, ni, ci, h1, h2⟩ := hF.out z hz a ha
          refine ⟨ai, ni, ci, h1, ?_⟩
          by_cases hzx : z < x
          · rw [if_pos hzx] at h2 ⊢; exact h2
          · rw [if_neg hzx] at h2 ⊢
            by_cases hze : z = x
            · rw [if_pos hze]; simpa [fanL] using h2
            · rw [if_neg hze]; exact h2, fun j h1 h2 _ => by rw [show j = 0 by omega], fun h => by omega, fun h => h⟩, HB.out⟩
      case round =>
        obtain ⟨t, fr, G, ht, hft, rfl, rfl, hown2, hI, hb2⟩ := hrel
        have HOwn2 := Lib.hid hown2
        have HB2 := Lib.hid hb2
        have HBw2 := Lib.hid (HB0.out.trans (hb2.mono (by omega)))
        clear hown2 hb2
        by_cases hlt2 : t < ni
        · obtain ⟨be, oe, rfl, d1, d2⟩ := (HE.out.cells.below HBw2.out) t (by have := HNi.out; omega)
          obtain ⟨u, v, hu, hv, hu8⟩ := HOK.out t (by have := HNi.out; omega)
          have HU := Lib.hid hu
          rw [hu] at d1
          rw [hv] at d2
          have hu0 : (0 : Int) ≤ (u : Int) := by omega
          have hu1 : (u : Int) < 8 := by omega
          have hwr1 : IntKind.i64.wrap ((t : Int) + 1) = (t : Int) + 1 := IntWalk.i64_in _ (by omega)
          have HBe := Lib.hid (HB2.out.alloc (Nat.le_trans (by simp) HB2.out.size) (.cells #[.int .i64 u, .int .i64 v] 81))
          have HOe := Lib.hid (HOwn2.out.alloc (.cells #[.int .i64 u, .int .i64 v] 81))
          obtain ⟨a', hcut, hcutA⟩ := cutE HE.out fr (t + 1) (by omega) (by omega)
          simp only [Int.natCast_add, Int.natCast_one] at hcut
          obtain ⟨a3, n3, c3, hG3, _⟩ := hI.out.1 x hlt u hu8
          have hflat : x * 8 + u < k * 8 := by omega
          have k1 := World.ownsRow.cellAt HOe.out (x * 8 + u) hflat
          rw [rowF_at _ hflat, hG3] at k1
          have k2 := World.ownsRow.frozenAt HOe.out (x * 8 + u)
          have HSeg : Hid (fanL (l.take (t + 1)) u = (l.drop fr).take (t + 1 - fr) ∧ ∀ a, a ≠ u → fanL (l.take (t + 1)) a = fanL (l.take fr) a) := Lib.hid (by
            have hfu : (edAt l fr).1 = (u : Int) := by rw [← hI.out.2.1 t hft (Nat.le_refl _) hlt2]; exact HU.out
            refine fan_seg hft (by have := HNi.out; omega) (fun j h1 h2 => by rw [hI.out.2.1 j h1 h2 (by omega)]; exact hfu) (fun j h1 => ?_)
            have h3 := HRise.out j (fr - 1) (by omega) (by have := HNi.out; omega)
            have h4 := HRise.out (fr - 1) fr (by omega) (by have := HNi.out; omega)
            have h5 := hI.out.2.2.1 (by omega) (by omega)
            omega)
          have HSt : Hid (((wr.alloc (.cells #[.int .i64 u, .int .i64 v] 81)).setCell ⟨w.heap.size + 1, x * 8 + u, none⟩ (.slice a' (t + 1 - fr) (ci - fr))).ownsRow (w.heap.size + 1) 115 8 (.slice (some ⟨w.heap.size + 1, 0, none⟩) k k) k (rowF (k * 8) (fun y => if y = x * 8 + u then .slice a' (t + 1 - fr) (ci - fr) else G y))) := Lib.hid (by
            have h1 := (World.ownsRow.stored HOe.out (x * 8 + u) (.slice a' (t + 1 - fr) (ci - fr))).1
            rwa [rowF_set _ _ hflat] at h1)
          have HFn : Hid (∀ z, z < k → ∀ a, a < 8 → ∃ ai ni ci', (fun y => if y = x * 8 + u then Value.slice a' (t + 1 - fr) (ci - fr) else G y) (z * 8 + a) = .slice ai ni ci' ∧ EdgeArg w ai ni ci' (if z < x then fanL (stAt m.states z) a else if z = x then fanL (l.take (t + 1)) a else [])) := Lib.hid fun z hz a ha => by
            by_cases e : z * 8 + a = x * 8 + u
            · obtain ⟨rfl, rfl⟩ : z = x ∧ a = u := by omega
              refine ⟨a', _, _, if_pos rfl, ?_⟩
              rw [if_neg (by omega), if_pos rfl, HSeg.out.1]
              exact hcutA
            · obtain ⟨ai, n4, ci4, g1, g2⟩ := hI.out.1 z hz a ha
              refine ⟨ai, n4, ci4, (if_neg e).trans g1, ?_⟩
              by_cases hzx : z < x
              · rw [if_pos hzx] at g2 ⊢; exact g2
              · rw [if_neg hzx] at g2 ⊢
                by_cases hze : z = x
                · rw [if_pos hze] at g2 ⊢
                  rw [HSeg.out.2 a (by intro h; exact e (by rw [hze, h]))]
                  exact g2
                · rw [if_neg hze] at g2 ⊢; exact g2
          have HCut := Lib.hid hcutA
          clear hu hv hcutA hG3
          by_cases hend : t + 1 = ni
          · have hq : (((t : Int) + 1) == (ni : Int)) = true := by rw [beq_iff_eq]; omega
            have HI2 : Hid ((∀ z, z < k → ∀ a, a < 8 → ∃ ai ni ci', (fun y => if y = x * 8 + u then Value.slice a' (t + 1 - fr) (ci - fr) else G y) (z * 8 + a) = .slice ai ni ci' ∧ EdgeArg w ai ni ci' (if z < x then fanL (stAt m.states z) a else if z = x then fanL (l.take (t + 1)) a else [])) ∧ (∀ j, t + 1 ≤ j → j ≤ t + 1 → j < ni → (edAt l j).1 = (edAt l (t + 1)).1) ∧ (0 < t + 1 → t + 1 < ni → (edAt l (t + 1 - 1)).1 ≠ (edAt l (t + 1)).1) ∧ (t + 1 = ni → t + 1 = ni)) := Lib.hid ⟨HFn.out, fun j h1 h2 _ => by rw [show j = t + 1 by omega], (fun _ h => by omega), fun h => h⟩
            clear hend
            go_wp2
            go_quiet (fail)
            go_wp2
            go_region
            all_goals
              go_wp2
              go_roundw
              case rel => exact ⟨t + 1, t + 1, _, by omega, Nat.le_refl _, by go_num, by go_num, HSt.out, HI2, ((below_drewN HBe.out _).setCell (p := ⟨w.heap.size + 1, x * 8 + u, none⟩) (Nat.le_refl _) _)⟩
              case measure => simp [intOf]; omega
          · have hq : (((t : Int) + 1) == (ni : Int)) = false := by rw [beq_eq_false_iff_ne]; omega
            obtain ⟨be', oe', e3, d3, d4⟩ := (HE.out.cells.below HBw2.out) (t + 1) (by have := HNi.out; omega)
            cases e3
            obtain ⟨u', v', hu', hv', hu8'⟩ := HOK.out (t + 1) (by have := HNi.out; omega)
            have HU' := Lib.hid hu'
            rw [hu'] at d3
            have D3 := cell_new d3 (.cells #[.int .i64 u, .int .i64 v] 81)
            have ht0 : (0 : Int) ≤ (t : Int) + 1 := by omega
            have ht1 : (t : Int) + 1 < (ni : Int) := by omega
            clear hu' hv' d4
            by_cases hne : u' = u
            · have hq2 : ((u' : Int) != (u : Int)) = false := by rw [bne_eq_false_iff_eq, hne]
              have HI2 : Hid ((∀ z, z < k → ∀ a, a < 8 → ∃ ai ni ci, G (z * 8 + a) = .slice ai ni ci ∧ EdgeArg w ai ni ci (if z < x then fanL (stAt m.states z) a else if z = x then fanL (l.take fr) a else [])) ∧ (∀ j, fr ≤ j → j ≤ t + 1 → j < ni → (edAt l j).1 = (edAt l fr).1) ∧ (0 < fr → fr < ni → (edAt l (fr - 1)).1 ≠ (edAt l fr).1) ∧ (t + 1 = ni → fr = ni)) := Lib.hid ⟨hI.out.1, fun j h1 h2 h3 => by
                  by_cases e : j = t + 1
                  · rw [e, HU'.out, hne, ← HU.out]; exact hI.out.2.1 t hft (Nat.le_refl _) hlt2
                  · exact hI.out.2.1 j h1 (by omega) h3, hI.out.2.2.1, fun h => by omega⟩
              clear hne
              go_wp2
              go_quiet (fail)
              go_wp2
              go_roundw
              case rel => exact ⟨t + 1, fr, G, by omega, by omega, by go_num, rfl, HOe.out, HI2, below_drewN HBe.out _⟩
              case measure => simp [intOf]; omega
            · have hq2 : ((u' : Int) != (u : Int)) = true := by rw [bne_iff_ne]; omega
              have HI2 : Hid ((∀ z, z < k → ∀ a, a < 8 → ∃ ai ni ci', (fun y => if y = x * 8 + u then Value.slice a' (t + 1 - fr) (ci - fr) else G y) (z * 8 + a) = .slice ai ni ci' ∧ EdgeArg w ai ni ci' (if z < x then fanL (stAt m.states z) a else if z = x then fanL (l.take (t + 1)) a else [])) ∧ (∀ j, t + 1 ≤ j → j ≤ t + 1 → j < ni → (edAt l j).1 = (edAt l (t + 1)).1) ∧ (0 < t + 1 → t + 1 < ni → (edAt l (t + 1 - 1)).1 ≠ (edAt l (t + 1)).1) ∧ (t + 1 = ni → t + 1 = ni)) := Lib.hid ⟨HFn.out, fun j h1 h2 _ => by rw [show j = t + 1 by omega], (fun _ _ => by rw [Nat.add_sub_cancel, HU.out, HU'.out]; omega), fun h => h⟩
              clear hne
              go_wp2
              go_quiet (fail)
              go_wp2
              go_region
              all_goals
                go_wp2
                go_roundw
                case rel => exact ⟨t + 1, t + 1, _, by omega, Nat.le_refl _, by go_num, by go_num, HSt.out, HI2, ((below_drewN HBe.out _).setCell (p := ⟨w.heap.size + 1, x * 8 + u, none⟩) (Nat.le_refl _) _)⟩
                case measure => simp [intOf]; omega
        · have hte : t = ni := by omega
          have hfe : fr = ni := hI.out.2.2.2 hte
          have HG : Hid (∀ z, z < k → ∀ a, a < 8 → ∃ ai ni ci, G (z * 8 + a) = .slice ai ni ci ∧ EdgeArg w ai ni ci (if z < x + 1 then fanL (stAt m.states z) a else [])) := Lib.hid fun z hz a ha => by
            obtain ⟨ai, n2, ci, h1, h2⟩ := hI.out.1 z hz a ha
            refine ⟨ai, n2, ci, h1, ?_⟩
            by_cases hzx : z < x
            · rw [if_pos hzx] at h2; rw [if_pos (by omega)]; exact h2
            · rw [if_neg hzx] at h2
              by_cases hze : z = x
              · rw [if_pos hze, List.take_of_length_le (by have := HNi.out; omega), ← HLl.out] at h2
                rw [if_pos (by omega), hze]
                exact h2
              · rw [if_neg hze] at h2; rw [if_neg (by omega)]; exact h2
          go_wp2
          go_roundw
          case rel => exact ⟨x + 1, G, by omega, by go_num, HOwn2.out, HG, HB2.out⟩
          case measure => simp [intOf]; omega
    · have HG : Hid (FansArg w v0 (w.heap.size + 1) k m.states) := Lib.hid ⟨fun z hz a ha => by
        obtain ⟨ai, n2, ci, h1, h2⟩ := hF.out z hz a ha
        rw [if_pos (by omega)] at h2
        refine ⟨ai, n2, ci, ?_, h2⟩
        rw [World.ownsRow.cellAt HOwn.out (z * 8 + a) (by omega), rowF_at _ (by omega), h1]⟩
      have hgl := (HOwn.out.lt _ rfl).2
      go_wp2
      go_ret
      exact ⟨_, rfl, by omega, hgl, HG.out, HBw.out⟩
end Go.Proofs.YtlnncklanabbdaaGreatDoor
