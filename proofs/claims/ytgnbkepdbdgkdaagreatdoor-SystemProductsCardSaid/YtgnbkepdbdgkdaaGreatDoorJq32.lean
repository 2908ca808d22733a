/- Texts joined: After, Steps. -/
import Derived.Test.YtgnbkepdbdgkdaaGreatDoorJq20
import Derived.Test.YtgnbkepdbdgkdaaGreatDoorJq16
import Derived.Test.YtgnbkepdbdgkdaaGreatDoorJq31
import Derived.Sort.OwnSortedInts
import Derived.Test.YtgnbkepdbdgkdaaGreatDoorJq10
import Derived.Test.YtgnbkepdbdgkdaaGreatDoorJq11
import Derived.OpenShut
/- system.After: the states after a word, in increasing order. -/
namespace Go.Proofs.YtgnbkepdbdgkdaaGreatDoor
open Go.RowKit Go.Sort Pl

theorem sorted_eq : ∀ (l m : List Nat), l.Pairwise (· < ·) → m.Pairwise (· < ·) → (∀ y, y ∈ l ↔ y ∈ m) → l = m
  | [], [], _, _, _ => rfl
  | [], y :: m, _, _, h => absurd ((h y).2 (by simp)) (by simp)
  | x :: l, [], _, _, h => absurd ((h x).1 (by simp)) (by simp)
  | x :: l, y :: m, hl, hm, h => by
    rw [List.pairwise_cons] at hl hm
    have hxy : x = y := by
      rcases List.mem_cons.1 ((h x).1 (by simp)) with e | e
      · exact e
      · rcases List.mem_cons.1 ((h y).2 (by simp)) with e2 | e2
        · exact e2.symm
        · have := hl.1 y e2
          have := hm.1 x e
          omega
    subst hxy
    rw [sorted_eq l m hl.2 hm.2 fun z => ⟨fun hz => by
      rcases List.mem_cons.1 ((h z).1 (List.mem_cons_of_mem _ hz)) with e | e
      · have := hl.1 z hz; omega
      · exact e, fun hz => by
      rcases List.mem_cons.1 ((h z).2 (List.mem_cons_of_mem _ hz)) with e | e
      · have := hm.1 z hz; omega
      · exact e⟩]
theorem rising_at : ∀ (l : List Nat) (b : Nat), l.Pairwise (· < ·) → (∀ x ∈ l, b ≤ x) → ∀ j (h : j < l.length), b + j ≤ l[j]
  | [], _, _, _, j, h => by simp at h
  | x :: l, b, hp, hb, 0, _ => by simpa using hb x (by simp)
  | x :: l, b, hp, hb, j + 1, h => by
    rw [List.pairwise_cons] at hp
    have := rising_at l (b + 1) hp.2 (fun y hy => by have := hp.1 y hy; have := hb x (by simp); omega) j (by simpa using h)
    simp only [List.getElem_cons_succ]
    omega
theorem rising_len {l : List Nat} {k : Nat} (hp : l.Pairwise (· < ·)) (hk : ∀ y ∈ l, y < k) : l.length ≤ k := by
  rcases Nat.lt_or_ge k l.length with h | h
  · have h1 := rising_at l 0 hp (fun _ _ => Nat.zero_le _) k h
    have h2 := hk _ (List.getElem_mem h)
    omega
  · exact h
/-- what sorting leaves of a list without repetitions -/
theorem sorted_of {l : List Nat} (hn : l.Nodup) : ∃ l' : List Nat, l'.Perm l ∧ l'.Pairwise (· < ·) ∧ zs l' = (zs l).mergeSort (fun x y => decide (x ≤ y)) := by
  obtain ⟨ts, hts⟩ : ∃ ts, ts = (zs l).mergeSort (fun x y => decide (x ≤ y)) := ⟨_, rfl⟩
  have hp : ts.Perm (zs l) := by rw [hts]; exact List.mergeSort_perm _ _
  have hs : ts.Pairwise (fun x y => decide (x ≤ y) = true) := by
    rw [hts]
    exact List.pairwise_mergeSort (fun a b c h1 h2 => by simp only [decide_eq_true_eq] at *; omega) (fun a b => by simp only [Bool.or_eq_true, decide_eq_true_eq]; omega) _
  have h0 : ∀ x ∈ ts, 0 ≤ x := fun x hx => by
    have := hp.mem_iff.1 hx
    unfold zs at this
    obtain ⟨y, _, rfl⟩ := List.mem_map.1 this
    omega
  have hz : zs (ts.map Int.toNat) = ts := by
    unfold zs
    rw [List.map_map]
    conv => rhs; rw [← List.map_id ts]
    refine List.map_congr_left fun x hx => ?_
    have := h0 x hx
    simp only [Function.comp, id]
    omega
  have hp2 : (ts.map Int.toNat).Perm l := by
    have := hp.map Int.toNat
    have e : (zs l).map Int.toNat = l := by
      unfold zs
      rw [List.map_map]
      conv => rhs; rw [← List.map_id l]
      exact List.map_congr_left fun x _ => by simp
    rwa [e] at this
  refine ⟨ts.map Int.toNat, hp2, ?_, by rw [hz, hts]⟩
  have hnd := hp2.nodup_iff.2 hn
  have h1 : (ts.map Int.toNat).Pairwise (· ≤ ·) := by
    rw [List.pairwise_map]
    refine hs.imp_of_mem fun {x y} hx hy h => ?_
    simp only [decide_eq_true_eq] at h
    omega
  refine (h1.and hnd).imp fun {x y} h => ?_
  have := h.1
  have := h.2
  omega
theorem nodup_len {l : List Nat} {k : Nat} (hn : l.Nodup) (hk : ∀ y ∈ l, y < k) : l.length ≤ k := by
  obtain ⟨l', hp, hs, _⟩ := sorted_of hn
  rw [← hp.length_eq]
  exact rising_len hs fun y hy => hk y (hp.mem_iff.1 hy)

/-- slices.Sort of a row of the call's own without repetitions -/
theorem sortN_any {w : World} {base : Nat} {v : Value} {l : List Nat} (h : NumOwn w base v l) (hn : l.Nodup) (hl : l.length ≤ 1000000) :
    Calls Tryz.prog 59 #[v] w fun e w' => e = .returned (.tuple #[]) ∧ (∃ l' : List Nat, l'.Perm l ∧ l'.Pairwise (· < ·) ∧ NumOwn w' base v l') ∧ Below base w w' := by
  obtain ⟨l', hp, hs, hz⟩ := sorted_of hn
  have hO := h
  rcases h.2 with ⟨rfl, h0⟩ | ⟨g, cap, cur, rfl, hg, hh, hc, hm, hsz, ht⟩
  · refine (Tryz.slices_Sort_int_none none 0 w).mono ?_
    rintro e w' ⟨rfl, rfl⟩
    have e1 : l = [] := List.length_eq_zero_iff.1 h0
    exact ⟨rfl, ⟨l, List.Perm.refl _, by rw [e1]; simp, hO⟩, Below.refl _ _⟩
  · have ht' : cur.toList.take (zs l).length = (zs l).map (Value.int .i64) := by rw [zs_length, ← ht, Nat.mul_one]
    have hC := Tryz.slices_Sort_int g 0 cap (zs l) w (holds_of_blockI hh ht') (Array.getElem?_eq_some_iff.1 hh).1 (by rw [zs_length]; omega)
    rw [zs_length] at hC
    refine hC.mono ?_
    rintro e w' ⟨rfl, q, os, rfl⟩
    have hlen : ((zs l).mergeSort (fun x y => decide (x ≤ y))).length = (zs l).length := List.length_mergeSort _
    refine ⟨rfl, ⟨l', hp, hs, ?_⟩, (Below.refl _ w).grown (grownBy_sortedI _) (Nat.le_trans hg (Nat.le_of_lt (Array.getElem?_eq_some_iff.1 hh).1)) (fun k hk => by cases hk; exact hg)⟩
    have hw := ownsRow_sortedI (n := q) (os := os) hlen hg hh (by rw [zs_length]; exact hc) hm hsz
    unfold NumOwn
    rw [hp.length_eq, hz]
    rwa [zs_length] at hw

/-! ### what After answers -/
def aftC (m : Syst) (word : List Int) : Int := if sysB m = true then (if wordB m.acts.length word = true then 0 else 1) else 20
def aftL (m : Syst) (word : List Int) : List Nat := if sysB m = true ∧ wordB m.acts.length word = true then afterL m.states word else []
theorem made_nums (k : Nat) : (madeCells (Value.int .i64 0).cells (k * 1)).toList = rowF k (fun _ => .int .i64 0) := by
  refine List.ext_getElem (by simp [madeCells, rowF]) fun i h1 h2 => ?_
  simp [madeCells, Value.cells, rowF, Nat.mod_one]
theorem cut0_run (a : Option Addr) (n c : Nat) (h : a = none → c = 0) (w' : World) : (Instr.slice 28 (.slice a n c) none (some (.int .i64 0)) none).run Tryz.prog w' = .ok (.slice a 0 c) w' := by
  have h1 : (0 : Int) ≤ c := by omega
  cases a with
  | none =>
    obtain rfl := h rfl
    go_simp
  | some x =>
    have e : x.add 0 = x := by unfold Addr.add; rw [if_pos rfl]
    go_simp
theorem NumOwn.cut0 {w : World} {base : Nat} {a : Option Addr} {c : Nat} {l : List Nat} (h : NumOwn w base (.slice a l.length c) l) : NumOwn w base (.slice a 0 c) [] ∧ (a = none → c = 0) := by
  rcases h.2 with ⟨e, h0⟩ | ⟨g, cap, cur, e, hg, hh, hc, hm, hz, ht⟩
  · simp only [Value.slice.injEq] at e
    obtain ⟨rfl, _, rfl⟩ := e
    exact ⟨World.ownsRow_nil _ _ _ _, fun _ => rfl⟩
  · simp only [Value.slice.injEq, true_and] at e
    obtain ⟨rfl, rfl⟩ := e
    exact ⟨⟨rfl, .inr ⟨g, c, cur, rfl, hg, hh, Nat.zero_le _, hm, hz, by simp [zs]⟩⟩, fun h => by cases h⟩
/-- two values that lie in one block at most if it is none -/
def Apart (v x : Value) : Prop := ∀ g, v.ownBlock = some g → x.ownBlock ≠ some g
theorem Apart.symm {v x : Value} (h : Apart v x) : Apart x v := fun g e e2 => h g e2 e
theorem Apart.row {v x : Value} (h : Apart v x) : v.ownBlock = none ∨ v.ownBlock ≠ x.ownBlock := by
  cases e : v.ownBlock with
  | none => exact .inl rfl
  | some g => exact .inr fun e2 => h g e e2.symm

/-- where After stands between two steps -/
structure AftAt (w2 wr : World) (k : Nat) (nv xv : Value) (R : Nat → Nat) (N X : List Nat) : Prop where
  now : NumOwn wr (w2.heap.size + 1) nv N
  next : NumOwn wr (w2.heap.size + 1) xv X
  apart : Apart nv xv
  row : wr.ownsRow w2.heap.size 3 1 (.slice (some ⟨w2.heap.size, 0, none⟩) k k) k (rowF k (fun y => .int .i64 (R y : Nat)))
  below : Below w2.heap.size w2 wr
theorem AftAt.name {w2 wr : World} {k : Nat} {nv xv : Value} {R : Nat → Nat} {N X : List Nat} (h : AftAt w2 wr k nv xv R N X) : ∃ z, z = xv ∧ AftAt w2 wr k nv z R N X := ⟨xv, rfl, h⟩
theorem AftAt.alloc {w2 wr : World} {k : Nat} {nv xv : Value} {R : Nat → Nat} {N X : List Nat} (h : AftAt w2 wr k nv xv R N X) (o : Obj) : AftAt w2 (wr.alloc o) k nv xv R N X :=
  ⟨World.ownsRow.alloc h.now o, World.ownsRow.alloc h.next o, h.apart, h.row.alloc o, h.below.alloc h.below.size o⟩
theorem AftAt.drewN {w2 wr : World} {k : Nat} {nv xv : Value} {R : Nat → Nat} {N X : List Nat} (h : AftAt w2 wr k nv xv R N X) (q : Nat) : AftAt w2 (wr.drewN q) k nv xv R N X :=
  ⟨h.now, h.next, h.apart, h.row, below_drewN h.below q⟩
/-- a mark is set -/
theorem AftAt.mark {w2 wr : World} {k : Nat} {nv xv : Value} {R : Nat → Nat} {N X : List Nat} (h : AftAt w2 wr k nv xv R N X) {y : Nat} (hy : y < k) (v : Nat) :
    AftAt w2 (wr.setCell ⟨w2.heap.size, y, none⟩ (.int .i64 (v : Nat))) k nv xv (fun z => if z = y then v else R z) N X := by
  have hg := grown_self wr ⟨w2.heap.size, y, none⟩ (.int .i64 (v : Nat))
  refine ⟨h.now.kept hg (.inr (own_ne (g := w2.heap.size) h.now (by omega)).symm), h.next.kept hg (.inr (own_ne (g := w2.heap.size) h.next (by omega)).symm), h.apart, ?_, h.below.setCell (Nat.le_refl _) _⟩
  have h1 := (World.ownsRow.stored h.row y (.int .i64 (v : Nat))).1
  rw [rowF_set _ _ hy] at h1
  rwa [rowF_congr (G := fun z => if z = y then .int .i64 (v : Nat) else .int .i64 (R z : Nat)) (fun z _ => by by_cases e : z = y <;> simp [e])]
/-- a state more -/
theorem AftAt.add {w2 wA wB : World} {k : Nat} {nv xv xv' : Value} {R : Nat → Nat} {N X : List Nat} {y : Nat} (h : AftAt w2 wA k nv xv R N X) (hg : wA.grownBy wB xv.ownBlock) (hat : xv'.ownBlock = xv.ownBlock ∨ xv'.ownBlock = some wA.heap.size)
    (hB : wB.ownsRow (w2.heap.size + 1) 3 1 xv' (X.length + 1) ((zs X).map (Value.int .i64) ++ [.int .i64 y])) : AftAt w2 wB k nv xv' R N (X ++ [y]) := by
  refine ⟨h.now.kept hg h.apart.row, ?_, fun g e e2 => ?_, h.row.kept hg (.inr (own_ne (g := w2.heap.size) h.next (by omega))), h.below.grown hg h.below.size (fun g e => by have := own_ge h.next g e; omega)⟩
  · unfold NumOwn
    rw [List.length_append, zs_app, List.map_append]
    exact hB
  · rcases hat with h1 | h1
    · exact h.apart g e (h1 ▸ e2)
    · rw [h1] at e2
      have := (World.ownsRow.lt h.now g e).2
      cases e2
      omega

set_option maxRecDepth 100000 in
set_option maxHeartbeats 16000000 in
theorem After_any {w : World} {a : Option Addr} {n c : Nat} {b : Option Addr} {k d : Nat} {m : Syst} {wa : Option Addr} {wn wc : Nat} {word : List Int} {e0 e1 e2 : Addr} (E : Errs w e0 e1 e2) (A : SysArg w a n c b k d m) (L : IntArg w wa wn wc word) :
    Calls Tryz.prog 19 #[.agg #[.slice a n c, .slice b k d], .slice wa wn wc] w fun e w' => ∃ v, e = .returned (.tuple #[v, .int .i64 (aftC m word)]) ∧ NumOwn w' w.heap.size v (aftL m word) ∧ Below w.heap.size w w' := by
  obtain ⟨iN, hiN, hN0, hN1, hN2⟩ := info_parts infoNum
  have hb0 := (Below.refl w.heap.size w).alloc (Nat.le_refl _) (.cells #[.slice a n c, .slice b k d] 25)
  have hw0 := Whole.new w 25 #[.slice a n c, .slice b k d]
  have HC := Lib.hid (SCheck_any (E.below hb0) (A.below hb0))
  have HA := Lib.hid A
  have HL := Lib.hid L
  have hnb : n ≤ 140737488355328 := A.abig
  have hkb : k ≤ 140737488355328 := A.big
  have hwn : wn ≤ 9223372036854775807 := L.big
  have HB0 := Lib.hid hb0
  have HW0 := Lib.hid hw0
  have HNa := Lib.hid A.acts.len
  clear E A L hb0 hw0
  cases hv : sysB m
  · have HO : Hid (aftC m word = 20 ∧ aftL m word = []) := Lib.hid (by unfold aftC aftL; rw [hv]; exact ⟨rfl, rfl⟩)
    rw [chk_no hv] at HC
    clear hv
    go_enter Tryz.func19, Tryz.ntmps19
    go_wp2_with fail
    refine HC.out.mono ?_
    rintro e w1 ⟨rfl, hb1⟩
    go_wp2
    go_ret2
    exact ⟨_, by rw [HO.out.1]; rfl, by rw [HO.out.2]; exact World.ownsRow_nil _ _ _ _, HB0.out.trans (hb1.mono HB0.out.size)⟩
  · rw [chk_yes hv] at HC
    have HV := Lib.hid hv
    cases hwd : wordB m.acts.length word
    · have HO : Hid (aftC m word = 1 ∧ aftL m word = []) := Lib.hid (by unfold aftC aftL; rw [hv, hwd]; exact ⟨rfl, rfl⟩)
      rw [← HNa.out] at hwd
      have HWd := Lib.hid hwd
      clear hv hwd
      go_enter Tryz.func19, Tryz.ntmps19
      go_wp2_with fail
      refine HC.out.mono ?_
      rintro e w1 ⟨rfl, hb1⟩
      have hx := HW0.out.below hb1 HW0.out.lt
      have q0 := hx.cell 0
      have hb01 := HB0.out.trans (hb1.mono HB0.out.size)
      have HI := IsWord_any n (by omega) (HL.out.below hb01)
      rw [HWd.out] at HI
      have HI := Lib.hid HI
      have HB1 := Lib.hid hb01
      simp only [List.getElem?_toArray, List.getElem?_cons_zero] at q0
      clear hb1 hb01 hx
      go_wp2_with fail
      refine HI.out.mono ?_
      rintro e w' ⟨rfl, rfl⟩
      go_wp2
      go_ret2
      exact ⟨_, by rw [HO.out.1]; rfl, by rw [HO.out.2]; exact World.ownsRow_nil _ _ _ _, HB1.out⟩
    · have HO : Hid (aftC m word = 0 ∧ aftL m word = afterL m.states word) := Lib.hid (by unfold aftC aftL; rw [hv, hwd]; exact ⟨rfl, rfl⟩)
      rw [← HNa.out] at hwd
      have HWd := Lib.hid hwd
      have hs := (sysB_iff m).1 hv
      have hk1 : 1 ≤ k := by have := HA.out.len; omega
      have hk5 : k ≤ 5000 := by have := HA.out.len; omega
      have hn8 : n ≤ 8 := by have := ((actsB_iff m.acts).1 hs.1).1; have := HNa.out; omega
      have hm1 : 1 ≤ m.states.length := hs.2.1
      have HKm := Lib.hid HA.out.len
      have hw4 : wn ≤ 10000 := by
        have h1 := HWd.out
        unfold wordB at h1
        rw [Bool.and_eq_true, decide_eq_true_eq] at h1
        have := HL.out.len
        omega
      have HActs : Hid (∀ j, j < word.length → 0 ≤ word.getD j 0 ∧ word.getD j 0 < n) := Lib.hid (by
        have h1 := HWd.out
        unfold wordB at h1
        rw [Bool.and_eq_true] at h1
        exact (actsK_iff n word).1 h1.2)
      have HLL := Lib.hid HL.out.len
      clear hv hwd hs
      go_enter Tryz.func19, Tryz.ntmps19
      go_wp2_with fail
      refine HC.out.mono ?_
      rintro e w1 ⟨rfl, hb1⟩
      have hx := HW0.out.below hb1 HW0.out.lt
      have q0 := hx.cell 0
      have q1 := hx.cell 1
      have hb01 := HB0.out.trans (hb1.mono HB0.out.size)
      have HI := IsWord_any n (by omega) (HL.out.below hb01)
      rw [HWd.out] at HI
      have HI := Lib.hid HI
      have HFn := Lib.hid (fansOf_any (HA.out.below hb01) HV.out)
      have HX1 := Lib.hid hx
      have HB1 := Lib.hid hb01
      simp only [List.getElem?_toArray, List.getElem?_cons_succ, List.getElem?_cons_zero] at q0 q1
      have hz1 : w.heap.size < w1.heap.size := hx.lt
      clear hb1 hb01 hx
      go_wp2_with fail
      refine HI.out.mono ?_
      rintro e w' ⟨rfl, rfl⟩
      go_wp2_with fail
      refine HFn.out.mono ?_
      rintro e w2 ⟨gF, rfl, hgF1, hgF2, hFA, hb2⟩
      have hz2 := hb2.size
      have hx2 := HX1.out.below hb2 (by omega)
      have p1 := hx2.cell 1
      simp only [List.getElem?_toArray, List.getElem?_cons_succ, List.getElem?_cons_zero] at p1
      have HFA := Lib.hid hFA
      have HB2 := Lib.hid (HB1.out.trans (hb2.mono HB1.out.size))
      have HB12 := Lib.hid hb2
      clear hb2 hFA hx2 q0 q1
      go_wp2_with (at_make; refine wpList_make_full _ rfl _ _ 28 rfl w2.heap.size 3 iN (.int .i64 0) 1 Tryz.underlying28 hiN hN0 hN1 .i64 .i64 k k k rfl rfl rfl rfl (by rw [hN2]; omega) (by unfold maxLen; omega) (Nat.le_refl _) ?_; intro w3 hrow hg3; refine Hid.out ?_)
      refine Lib.hid ?_
      rw [made_nums] at hrow
      have hz3 : w2.heap.size < w3.heap.size := (hrow.lt _ rfl).2
      have hb3 : Below w2.heap.size w2 w3 := (Below.refl _ _).grown hg3 (Nat.le_refl _) (fun k hk => by cases hk)
      have hl1 := World.ownsRow_lit (base := w2.heap.size + 1) (e := 3) (size := 1) w3 #[.int .i64 0] 1 (by omega) (by unfold maxLen; omega) rfl
      have hl2 := World.ownsRow_lit (base := w2.heap.size + 1) (e := 3) (size := 1) (w3.alloc (.cells #[.int .i64 0] 3)) #[] 0 (by simp; omega) (by unfold maxLen; omega) rfl
      simp only [World.size_alloc] at hl2
      have HAt : Hid (AftAt w2 ((w3.alloc (.cells #[.int .i64 0] 3)).alloc (.cells #[] 3)) k (.slice (some ⟨w3.heap.size, 0, none⟩) 1 1) (.slice (some ⟨w3.heap.size + 1, 0, none⟩) 0 0) (fun _ => 0) [0] []) := Lib.hid
        ⟨World.ownsRow.alloc hl1 _, hl2, fun g e e2 => by simp only [Value.ownBlock, Option.some.injEq] at e e2; omega, (hrow.alloc _).alloc _, (hb3.alloc hb3.size _).alloc (by simp; omega) _⟩
      clear hrow hg3 hb3 hl1 hl2
      go_wp2
      go_loopw [8, 9, 10, 11, 13, 15, 35, 42, 53] (fun nv xv _ _ _ _ i _ _ wr => ∃ (j : Nat) (R : Nat → Nat) (N : List Nat), j ≤ wn ∧ i = .int .i64 j ∧ AftAt w2 wr k nv xv R N [] ∧ Hid ((∀ y, y < k → R y ≤ j) ∧ N.Nodup ∧ ∀ y, y ∈ N ↔ y ∈ afterL m.states (word.take j))) (fun _ _ _ _ _ _ i _ _ _ => wn - (intOf i).toNat)
      case atStart => exact ⟨0, _, _, Nat.zero_le _, rfl, HAt.out, Lib.hid ⟨fun _ _ => Nat.le_refl _, by simp, fun y => by rw [afterL_zero]⟩⟩
      case round =>
        obtain ⟨v0, hv0⟩ : ∃ z, z = wr := ⟨_, rfl⟩
        subst hv0
        obtain ⟨j, R, N, hj, rfl, hat, hI⟩ := hrel
        obtain ⟨xv, rfl, hat⟩ := hat.name
        have HBw := Lib.hid (HB2.out.trans (hat.below.mono HB2.out.size))
        have hNl : N.length ≤ k := nodup_len hI.out.2.1 (fun y hy => by
          have := (afterL_facts (ss := m.states) hm1 word j (by have := HLL.out; omega)).1 y ((hI.out.2.2 y).1 hy)
          have := HKm.out
          omega)
        have HNk : Hid (∀ y ∈ N, y < k) := Lib.hid fun y hy => by
          have := (afterL_facts (ss := m.states) hm1 word j (by have := HLL.out; omega)).1 y ((hI.out.2.2 y).1 hy)
          have := HKm.out
          omega
        obtain ⟨na, nc, rfl⟩ := own_slice' hat.now
        have HAt1 := Lib.hid hat
        clear hat
        by_cases hlt : j < wn
        · obtain ⟨bl, ol, rfl, c1⟩ := (HL.out.below HBw.out).cells j (by have := HLL.out; omega)
          have hact := HActs.out j (by have := HLL.out; omega)
          obtain ⟨u, hu⟩ := Int.eq_ofNat_of_zero_le hact.1
          have hun : u < n := by omega
          have HU := Lib.hid hu
          rw [hu] at c1
          have hu0 : (0 : Int) ≤ (u : Int) := by omega
          have hu1 : (u : Int) < 8 := by omega
          have hwrj : IntKind.i64.wrap ((j : Int) + 1) = (j : Int) + 1 := IntWalk.i64_in _ (by omega)
          have HMid : Hid (AftAt w2 v0 k (.slice na N.length nc) xv R N [] ∧ (∀ y, y < k → R y ≤ j + 1) ∧ (∀ y, y < k → (R y = j + 1 ↔ y ∈ ([] : List Nat)))) := Lib.hid ⟨HAt1.out, fun y hy => Nat.le_succ_of_le (hI.out.1 y hy), fun y hy => by have := hI.out.1 y hy; simp; omega⟩
          clear hact hu
          go_wp2
          go_loopw [9, 13, 15, 42, 53] (fun xv _ _ q _ wr => ∃ (t : Nat) (R : Nat → Nat) (X : List Nat), t ≤ N.length ∧ q = .int .i64 t ∧ AftAt w2 wr k (.slice na N.length nc) xv R N X ∧ Hid ((∀ y, y < k → R y ≤ j + 1) ∧ (∀ y, y < k → (R y = j + 1 ↔ y ∈ X)) ∧ X.Nodup ∧ (∀ y ∈ X, y < k) ∧ ∀ y, y < k → (y ∈ X ↔ hitP m.states (N.take t) u y = true))) (fun _ _ _ q _ _ => N.length - (intOf q).toNat)
          case atStart => exact ⟨0, _, _, Nat.zero_le _, rfl, HMid.out.1, Lib.hid ⟨HMid.out.2.1, HMid.out.2.2, by simp, by simp, fun y _ => by simp [hitP]⟩⟩
          case round =>
            obtain ⟨v1, hv1⟩ : ∃ z, z = wr := ⟨_, rfl⟩
            subst hv1
            obtain ⟨t, R, X, ht, rfl, hat, hJ⟩ := hrel
            obtain ⟨xv, rfl, hat⟩ := hat.name
            have HAt2 := Lib.hid hat
            clear hat
            by_cases hlt2 : t < N.length
            · obtain ⟨x, HX⟩ : ∃ x, Hid (N.getD t 0 = x) := ⟨_, Lib.hid rfl⟩
              have hx : x < k := by
                rw [← HX.out, List.getD_eq_getElem?_getD, List.getElem?_eq_getElem hlt2]
                exact HNk.out _ (List.getElem_mem _)
              obtain ⟨a2, c2, e3, hArg⟩ := HAt2.out.now.arg (by omega)
              cases e3
              obtain ⟨bn, on, e3, c3⟩ := hArg.cells t (by rw [zs_length]; exact hlt2)
              rw [zs_at hlt2, HX.out] at c3
              obtain ⟨fi, fn, fc, c4, hFE⟩ := (HFA.out.below HAt2.out.below hgF2).cells x hx u (by omega)
              have HFE := Lib.hid hFE
              have hfn : fn ≤ 140737488355328 := by have := hFE.cap; have := hFE.big; omega
              have hx0 : (0 : Int) ≤ (x : Int) := by omega
              have hx1 : (x : Int) < (k : Int) := by omega
              subst e3
              clear hArg hFE
              have hxm : x < m.states.length := by have := HKm.out; omega
              have HInn : Hid (AftAt w2 v1 k (.slice (some ⟨bn, on, none⟩) N.length nc) xv R N X) := HAt2
              obtain ⟨f, HF⟩ : ∃ f, Hid (fanL (stAt m.states x) u = f) := ⟨_, Lib.hid rfl⟩
              rw [HF.out] at HFE
              have HFm : Hid (∀ s, s < f.length → ∃ y : Nat, edAt f s = ((u : Int), (y : Int)) ∧ y < k) := Lib.hid fun s hs => by
                have hmem : edAt f s ∈ f := by unfold edAt; rw [List.getD_eq_getElem?_getD, List.getElem?_eq_getElem hs]; exact List.getElem_mem hs
                have h1 := fanL_mem (l := stAt m.states x) (a := u) (e := edAt f s) (by rw [HF.out]; exact hmem)
                have hok := (okE_iff _ _ _).1 (edge_in (((sysB_iff m).1 HV.out).2.2.2.1 x hxm) h1.1)
                obtain ⟨y, hy⟩ := Int.eq_ofNat_of_zero_le hok.2.2.1
                exact ⟨y, Prod.ext h1.2 hy, by have := HKm.out; omega⟩
              have HFl : Hid (fn = f.length) := Lib.hid HFE.out.len
              go_wp2
              go_loopw [9, 15, 53] (fun xv _ z wr => ∃ (s : Nat) (R : Nat → Nat) (X : List Nat), s ≤ fn ∧ z = .int .i64 s ∧ AftAt w2 wr k (.slice (some ⟨bn, on, none⟩) N.length nc) xv R N X ∧ Hid ((∀ y, y < k → R y ≤ j + 1) ∧ (∀ y, y < k → (R y = j + 1 ↔ y ∈ X)) ∧ X.Nodup ∧ (∀ y ∈ X, y < k) ∧ ∀ y, y < k → (y ∈ X ↔ (hitP m.states (N.take t) u y || (f.take s).any (fun e => decide (e.2 = (y : Int)))) = true))) (fun _ _ z _ => fn - (intOf z).toNat)
              case atStart => exact ⟨0, _, _, Nat.zero_le _, rfl, HInn.out, Lib.hid ⟨hJ.out.1, hJ.out.2.1, hJ.out.2.2.1, hJ.out.2.2.2.1, fun y hy => by rw [hJ.out.2.2.2.2 y hy]; simp⟩⟩
              case round =>
                obtain ⟨s, R, X, hs, rfl, hat, hQ⟩ := hrel
                obtain ⟨xv, rfl, hat⟩ := hat.name
                have HAt3 := Lib.hid hat
                clear hat
                by_cases hlt3 : s < fn
                · obtain ⟨be, oe, rfl, d1, d2⟩ := (HFE.out.cells.below (HB12.out.trans (HAt3.out.below.mono HB12.out.size))) s (by have := HFl.out; omega)
                  obtain ⟨y, hey, hyk⟩ := HFm.out s (by have := HFl.out; omega)
                  rw [hey] at d1 d2
                  have HTk : Hid (∀ z : Nat, (f.take (s + 1)).any (fun e => decide (e.2 = (z : Int))) = ((f.take s).any (fun e => decide (e.2 = (z : Int))) || decide (y = z))) := Lib.hid fun z => by
                    rw [take_next f s (0, 0) (by have := HFl.out; omega), List.any_append, show f.getD s (0, 0) = edAt f s from rfl, hey]
                    simp only [List.any_cons, List.any_nil, Bool.or_false]
                    congr 1
                    rw [decide_eq_decide]
                    omega
                  obtain ⟨r, HR⟩ : ∃ r, Hid (R y = r) := ⟨_, Lib.hid rfl⟩
                  have HEb := Lib.hid (HAt3.out.alloc (.cells #[.int .i64 u, .int .i64 y] 87))
                  have hzr : w2.heap.size < wr.heap.size := (HAt3.out.row.lt _ rfl).2
                  have k1 := World.ownsRow.cellAt HEb.out.row y (by omega)
                  rw [rowF_at _ hyk, HR.out] at k1
                  have k2 := World.ownsRow.frozenAt HEb.out.row y
                  have hy0 : (0 : Int) ≤ (y : Int) := by omega
                  have hy1 : (y : Int) < (k : Int) := by omega
                  have hrj : r ≤ j + 1 := by rw [← HR.out]; exact hQ.out.1 y hyk
                  clear hey
                  by_cases hr : r ≤ j
                  · have hnX : Hid (y ∉ X) := Lib.hid fun h => by
                      have := (hQ.out.2.1 y hyk).2 h
                      rw [HR.out] at this
                      omega
                    have hM := (HAt3.out.mark hyk (j + 1)).alloc (.cells #[.int .i64 u, .int .i64 y] 87)
                    simp only [Int.natCast_add, Int.natCast_one] at hM
                    obtain ⟨xa, xc, rfl⟩ := own_slice' hM.next
                    have HSrc : Hid (SrcAt (((wr.setCell ⟨w2.heap.size, y, none⟩ (.int .i64 ((j : Int) + 1))).alloc (.cells #[.int .i64 u, .int .i64 y] 87)).alloc (.cells #[.int .i64 y] 3)) (some ⟨wr.heap.size + 1, 0, none⟩) [.int .i64 y]) := Lib.hid (by
                      have := num_src ((wr.setCell ⟨w2.heap.size, y, none⟩ (.int .i64 ((j : Int) + 1))).alloc (.cells #[.int .i64 u, .int .i64 y] 87)) y 3
                      simpa using this)
                    have HMl := Lib.hid (hM.alloc (.cells #[.int .i64 y] 3))
                    have hXl : X.length ≤ k := nodup_len hQ.out.2.2.1 hQ.out.2.2.2.1
                    have HQ2 : Hid ((∀ z, z < k → (fun z => if z = y then j + 1 else R z) z ≤ j + 1) ∧ (∀ z, z < k → ((fun z => if z = y then j + 1 else R z) z = j + 1 ↔ z ∈ X ++ [y])) ∧ (X ++ [y]).Nodup ∧ (∀ z ∈ X ++ [y], z < k) ∧ ∀ z, z < k → (z ∈ X ++ [y] ↔ (hitP m.states (N.take t) u z || (f.take (s + 1)).any (fun e => decide (e.2 = (z : Int)))) = true)) := Lib.hid ⟨fun z hz => by
                          by_cases e : z = y
                          · simp [e]
                          · simp only [if_neg e]; exact hQ.out.1 z hz, fun z hz => by
                          by_cases e : z = y
                          · simp [e]
                          · simp only [List.mem_append, List.mem_singleton, e, or_false]; exact hQ.out.2.1 z hz, by
                          rw [List.nodup_append]
                          refine ⟨hQ.out.2.2.1, by simp, fun p hp q hq => ?_⟩
                          simp only [List.mem_singleton] at hq
                          rintro rfl
                          exact hnX.out (hq ▸ hp), fun z hz => by
                          rcases List.mem_append.1 hz with h | h
                          · exact hQ.out.2.2.2.1 z h
                          · simp only [List.mem_singleton] at h; rw [h]; exact hyk, fun z hz => by
                          rw [HTk.out, List.mem_append, List.mem_singleton, hQ.out.2.2.2.2 z hz, ← Bool.or_assoc]
                          generalize (hitP m.states (N.take t) u z || (f.take s).any (fun e => decide (e.2 = (z : Int)))) = p
                          cases p <;> simp <;> exact eq_comm⟩
                    clear hM
                    go_wp2_with (at_builtin; (refine wpList_append_sz rfl (.tmp 70) (.tmp 73) 28 rfl (w2.heap.size + 1) 3 iN (.int .i64 0) 1 8 Tryz.underlying28 hiN hN0 hN1 hN2 rfl (by decide) (.slice xa X.length xc) rfl X.length ((zs X).map (Value.int .i64)) HMl.out.next (some ⟨wr.heap.size + 1, 0, none⟩) 1 1 rfl [.int .i64 y] (fun h => by cases h) rfl HSrc.out (by simp [Value.oneCell']) (by unfold maxLen; omega) (by omega) (by simp; omega) ?_); intro v2 wB hB hgB hatB; refine Hid.out ?_)
                    refine Lib.hid ?_
                    have HAd := Lib.hid (HMl.out.add hgB hatB hB)
                    clear hB hgB hatB
                    go_wp2
                    go_roundw
                    case rel => exact ⟨s + 1, _, _, by omega, by go_num, HAd.out, HQ2⟩
                    case measure => simp [intOf]; omega
                  · have hin : Hid (y ∈ X) := Lib.hid ((hQ.out.2.1 y hyk).1 (by rw [HR.out]; omega))
                    have HQ2 : Hid ((∀ z, z < k → R z ≤ j + 1) ∧ (∀ z, z < k → (R z = j + 1 ↔ z ∈ X)) ∧ X.Nodup ∧ (∀ z ∈ X, z < k) ∧ ∀ z, z < k → (z ∈ X ↔ (hitP m.states (N.take t) u z || (f.take (s + 1)).any (fun e => decide (e.2 = (z : Int)))) = true)) := Lib.hid ⟨hQ.out.1, hQ.out.2.1, hQ.out.2.2.1, hQ.out.2.2.2.1, fun z hz => by
                          rw [HTk.out, ← Bool.or_assoc, Bool.or_eq_true, ← hQ.out.2.2.2.2 z hz, decide_eq_true_eq]
                          constructor
                          · exact fun h => .inl h
                          · rintro (h | rfl)
                            · exact h
                            · exact hin.out⟩
                    have hr' : (j : Int) < (r : Int) := by omega
                    go_wp2
                    go_roundw
                    case rel => exact ⟨s + 1, R, X, by omega, by go_num, HEb.out, HQ2⟩
                    case measure => simp [intOf]; omega
                · have HQ2 : Hid ((∀ z, z < k → R z ≤ j + 1) ∧ (∀ z, z < k → (R z = j + 1 ↔ z ∈ X)) ∧ X.Nodup ∧ (∀ z ∈ X, z < k) ∧ ∀ z, z < k → (z ∈ X ↔ hitP m.states (N.take (t + 1)) u z = true)) := Lib.hid ⟨hQ.out.1, hQ.out.2.1, hQ.out.2.2.1, hQ.out.2.2.2.1, fun z hz => by
                    rw [hQ.out.2.2.2.2 z hz, hitP_take hlt2, HX.out, leads_fan, HF.out, show f.take s = f from List.take_of_length_le (by have := HFl.out; omega)]⟩
                  go_wp2
                  go_roundw
                  case rel => exact ⟨t + 1, R, X, by omega, by go_num, HAt3.out, HQ2⟩
                  case measure => simp [intOf]; omega
            · have htN : t = N.length := by omega
              have hcut := cut0_run na N.length nc HAt2.out.now.cut0.2
              have HNew : Hid (AftAt w2 v1 k xv (.slice na 0 nc) R X []) := Lib.hid ⟨HAt2.out.next, HAt2.out.now.cut0.1, fun g e e2 => by
                  have h1 : (Value.slice na N.length nc).ownBlock = some g := by cases na with
                    | none => cases e2
                    | some x => exact e2
                  exact HAt2.out.apart g h1 e, HAt2.out.row, HAt2.out.below⟩
              have HI2 : Hid ((∀ y, y < k → R y ≤ j + 1) ∧ X.Nodup ∧ ∀ y, y ∈ X ↔ y ∈ afterL m.states (word.take (j + 1))) := Lib.hid ⟨hJ.out.1, hJ.out.2.2.1, fun y => by
                have hh : hitP m.states N u y = hitP m.states (afterL m.states (word.take j)) u y := by
                  unfold hitP
                  rw [Bool.eq_iff_iff, List.any_eq_true, List.any_eq_true]
                  exact ⟨fun ⟨x, h1, h2⟩ => ⟨x, (hI.out.2.2 x).1 h1, h2⟩, fun ⟨x, h1, h2⟩ => ⟨x, (hI.out.2.2 x).2 h1, h2⟩⟩
                rw [afterL_next _ _ _ (by have := HLL.out; omega), nextL_mem, HU.out, ← HKm.out]
                constructor
                · intro h
                  have hy := hJ.out.2.2.2.1 y h
                  have h1 := (hJ.out.2.2.2.2 y hy).1 h
                  rw [htN, List.take_length, hh] at h1
                  exact ⟨hy, h1⟩
                · rintro ⟨hy, h1⟩
                  refine (hJ.out.2.2.2.2 y hy).2 ?_
                  rw [htN, List.take_length, hh]
                  exact h1⟩
              obtain ⟨xa, xc, rfl⟩ := own_slice' HAt2.out.next
              clear htN
              go_wp2
              go_quiet (fail)
              go_wp2
              go_roundw
              case rel => exact ⟨j + 1, R, X, by omega, by go_num, HNew.out.drewN _, HI2⟩
              case measure => simp [intOf]; omega
        · have HS := Lib.hid (sortN_any HAt1.out.now hI.out.2.1 (by omega))
          have hf := afterL_facts (ss := m.states) hm1 word wn (by have := HLL.out; omega)
          have hwl : word.take wn = word := List.take_of_length_le (by have := HLL.out; omega)
          rw [hwl] at hf
          have HMem : Hid (∀ y, y ∈ N ↔ y ∈ afterL m.states word) := Lib.hid fun y => by rw [hI.out.2.2 y, show j = wn by omega, hwl]
          have HSf := Lib.hid hf.2.2
          have HBx := Lib.hid HAt1.out.below
          clear hf hwl
          go_wp2_with fail
          refine HS.out.mono ?_
          rintro e w5 ⟨rfl, ⟨l', hp, hs, hv5⟩, hb5⟩
          have HEq : Hid (l' = afterL m.states word) := Lib.hid (sorted_eq _ _ hs HSf.out fun y => by rw [hp.mem_iff, HMem.out])
          have HV5 := Lib.hid hv5
          have HB5 := Lib.hid (HBw.out.trans (hb5.mono (by have := HB2.out.size; omega)))
          clear hp hs hv5 hb5
          go_wp2
          go_ret2
          exact ⟨_, by rw [HO.out.1]; rfl, by rw [HO.out.2, ← HEq.out]; exact HV5.out.low (by have := HB2.out.size; omega), HB5.out⟩
end Go.Proofs.YtgnbkepdbdgkdaaGreatDoor
/- SystemSteps: Offer and After answer what the definitions ask. -/
namespace Go.Proofs.YtgnbkepdbdgkdaaGreatDoor
open Go.RowKit Pl

theorem RowInts.arg {w : World} {base : Nat} {v : Value} {xs : List Int} (h : w.ownsRow base 3 1 v xs.length (xs.map (Value.int .i64))) (hl : xs.length ≤ 140737488355328) : ∃ a c, v = .slice a xs.length c ∧ IntArg w a xs.length c xs := by
  rcases h.2 with ⟨rfl, h0⟩ | ⟨g, cap, cur, rfl, hg, hh, hc, hm, hz, ht⟩
  · exact ⟨none, 0, by rw [h0], ⟨fun _ => rfl, rfl, by omega, by omega, fun j hj => by omega⟩⟩
  · refine ⟨some ⟨g, 0, none⟩, cap, rfl, ⟨(fun h => by cases h), rfl, hc, by omega, fun j hj => ⟨g, 0, rfl, ?_⟩⟩⟩
    rw [Nat.zero_add, World.ownsRow.cellAt h j (by omega), List.getElem?_map, List.getD_eq_getElem?_getD, List.getElem?_eq_getElem hj]
    rfl
theorem ints_src {w : World} {a : Option Addr} {xs : List Int} (h : IntsIn w a xs) : SrcAt w a (xs.map (Value.int .i64)) := fun j u hu => by
  rw [List.getElem?_map, Option.map_eq_some_iff] at hu
  obtain ⟨x, hx, rfl⟩ := hu
  have hj := (List.getElem?_eq_some_iff.1 hx).1
  obtain ⟨b, off, rfl, hc⟩ := h j hj
  refine ⟨_, rfl, ?_⟩
  rw [add_plainly, hc, List.getD_eq_getElem?_getD, hx]
  rfl
theorem none_ints (w : World) : IntArg w none 0 0 (zs []) := ⟨fun _ => rfl, rfl, Nat.le_refl _, by omega, fun j hj => by simp [zs] at hj⟩
theorem afterL_len {m : Syst} (h : sysB m = true) (word : List Int) : (afterL m.states word).length ≤ 5000 := by
  have hs := (sysB_iff m).1 h
  have := (afterL_facts (ss := m.states) hs.2.1 word word.length (Nat.le_refl _)).2.1
  rw [List.take_length] at this
  omega

end Go.Proofs.YtgnbkepdbdgkdaaGreatDoor
