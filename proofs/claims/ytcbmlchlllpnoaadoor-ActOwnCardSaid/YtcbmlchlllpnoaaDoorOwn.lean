/- ActOwn: no function modifies its arguments, and results are new memory. -/
import Derived.Test.YtcbmlchlllpnoaaDoorActSets
namespace Go.Proofs.YtcbmlchlllpnoaaDoor
open Go.RowKit Pl

theorem grown_setCell (w : World) (a : Addr) (u : Value) : w.grownBy (w.setCell a u) (some a.block) :=
  ⟨rfl, rfl, rfl, by simp [World.setCell], fun k _ hne => heap_setCell_other w a k u (fun e => hne (by rw [e]))⟩
theorem IntArg.kept {w w' : World} {a : Option Addr} {n c : Nat} {xs : List Int} {row : Option Nat} (h : IntArg w a n c xs) (hg : w.grownBy w' row) (hne : ∀ ad, a = some ad → some ad.block ≠ row) : IntArg w' a n c xs :=
  ⟨h.nil, h.len, h.cap, h.big, fun j hj => by
    obtain ⟨b, off, hab, hc⟩ := h.cells j hj
    refine ⟨b, off, hab, ?_⟩
    rw [World.cell?_of_block (hg.block b (lt_of_cell hc) (hne _ hab))]
    exact hc⟩
/-- a row of the call's own, to be written -/
def Writable (w : World) (a : Option Addr) (n : Nat) : Prop := ∀ j, j < n → ∃ b, a = some ⟨b, 0, none⟩ ∧ ∃ cur t, w.heap[b]? = some (.cells cur t (0, 0)) ∧ n ≤ cur.size
theorem writable_of_row {w : World} {base : Nat} {e : TypeId} {a : Option Addr} {n c : Nat} {xs : List Value} (h : w.ownsRow base e 1 (.slice a n c) n xs) : Writable w a n := fun j hj => by
  rcases h.2 with ⟨h1, h2⟩ | ⟨g, cap, cur, h1, hg, hh, hn, hm, hz, ht⟩
  · omega
  · cases h1
    exact ⟨g, rfl, cur, _, hh, by omega⟩
theorem Writable.kept {w w' : World} {a : Option Addr} {n : Nat} {row : Option Nat} (h : Writable w a n) (hg : w.grownBy w' row) (hne : ∀ ad, a = some ad → some ad.block ≠ row) : Writable w' a n := fun j hj => by
  obtain ⟨b, hab, cur, t, hb, hs⟩ := h j hj
  exact ⟨b, hab, cur, t, by rw [hg.block b (Array.getElem?_eq_some_iff.1 hb).1 (hne _ hab)]; exact hb, hs⟩
theorem Writable.set {w : World} {b k n : Nat} {u : Value} (h : Writable w (some ⟨b, 0, none⟩) n) : Writable (w.setCell ⟨b, k, none⟩ u) (some ⟨b, 0, none⟩) n := fun j hj => by
  obtain ⟨b', hab, cur, t, hb, hs⟩ := h j hj
  cases hab
  exact ⟨b, rfl, _, t, heap_setCell_same w b k cur t u hb, by rw [Array.size_setIfInBounds]; exact hs⟩
theorem Writable.below {w w' : World} {a : Option Addr} {n : Nat} (h : Writable w a n) (hb : Below w.heap.size w w') : Writable w' a n := fun j hj => by
  obtain ⟨b, hab, cur, t, hh, hs⟩ := h j hj
  exact ⟨b, hab, cur, t, by rw [hb.block b (Array.getElem?_eq_some_iff.1 hh).1]; exact hh, hs⟩
theorem own_lt {W : World} {base : Nat} {e : TypeId} {size n : Nat} {v : Value} {xs : List Value} (h : W.ownsRow base e size v n xs) : ∀ k, v.ownBlock = some k → base ≤ k ∧ k < W.heap.size := h.lt

set_option maxRecDepth 100000 in
set_option maxHeartbeats 8000000 in
theorem ActOwn_any {w : World} (x : Int) {e0 e1 e2 : Addr} (E : Errs w e0 e1 e2) (T : Tab w) {a : Option Addr} {n c : Nat} {ss : List ByteArray} (A : StrArg w a n c ss) (hr : n * 16 ≤ 140737488351232) (_hx : (Lit.int .i64 x).wf = true)
    {a' : Option Addr} {m c' : Nat} {xs : List Int} (X : IntArg w a' m c' xs) (hr' : m * 8 ≤ 140737488351232) (_hw : ∀ z ∈ xs, (Lit.int .i64 z).wf = true) :
    Calls Tryd.prog 7 #[.slice a n c, .int .i64 x, .slice a' m c'] w fun e w' => e = .returned (.bool true) ∧ Below w.heap.size w w' := by
  obtain ⟨i0, hi, hz0, hz1, hz2⟩ := info_parts infoInt
  have HNil := Lib.hid X.nils
  have HLen : Hid ((xs.map (Value.int .i64)).length = m) := Lib.hid (by rw [List.length_map]; exact X.len.symm)
  have HE := Lib.hid E
  have HT := Lib.hid T
  have HA := Lib.hid A
  have HX := Lib.hid X
  have hmb := X.big
  obtain ⟨LA, HLA⟩ : ∃ L : List Int, Hid (L = (listL ss x).map fun k : Nat => (k : Int)) := ⟨_, Lib.hid rfl⟩
  obtain ⟨LB, HLB⟩ : ∃ L : List Int, Hid (L = (setsL ss xs).map fun k : Nat => (k : Int)) := ⟨_, Lib.hid rfl⟩
  have hla : LA.length ≤ 256 := by
    rw [HLA.out, List.length_map]
    unfold listL
    split
    · have := memL_len x.toNat; omega
    · simp
  have hlb : LB.length ≤ 256 := by
    rw [HLB.out, List.length_map]
    unfold setsL
    split
    · exact gotL_len xs 256
    · simp
  obtain ⟨na, hna⟩ : ∃ k, LA.length = k := ⟨_, rfl⟩
  obtain ⟨nb, hnb⟩ : ∃ k, LB.length = k := ⟨_, rfl⟩
  rw [hna] at hla
  rw [hnb] at hlb
  have HLn : Hid (LA.length = na) := Lib.hid hna
  have HMn : Hid (LB.length = nb) := Lib.hid hnb
  obtain ⟨ck, HCk⟩ : ∃ z : Int, Hid ((if actsB ss = true then (0 : Int) else 10) = z) := ⟨_, Lib.hid rfl⟩
  clear E T A X hna hnb
  go_enter Tryd.func7, Tryd.ntmps7
  go_wp2_with fail
  refine (copied_any HA.out hr).mono ?_
  rintro e w1 ⟨an, cn, rfl, hN1, hb1⟩
  have HN1 := Lib.hid hN1
  have HX1 : Hid (IntsIn w1 a' xs) := Lib.hid (HX.out.cells.below hb1)
  clear hN1
  go_wp2_with (at_builtin; refine wpList_append_src (w0 := w1) rfl _ _ 33 rfl 3 i0 (.int .i64 0) 8 Tryd.underlying33 hi hz0 hz1 hz2 rfl _ rfl 0 [] (World.ownsRow_nil _ _ _ _) a' m c' rfl (xs.map (Value.int .i64)) HNil.out HLen.out (ints_at HX1.out) (ints_one _) (by unfold maxLen; omega) (by omega) (Below.refl _ w1) ?_; intro v2 wB hown2 hg2 hB2)
  rw [List.nil_append, Nat.zero_add] at hown2
  obtain ⟨ao, co, rfl, hI2⟩ := ints_of_row hown2 HX.out.len HX.out.big
  have HO := Lib.hid hI2
  have HN := Lib.hid (HN1.out.below hB2)
  have B0 : Below w.heap.size w wB := hb1.trans (hB2.mono hb1.size)
  clear hI2 hown2 hg2 HN1 HX1
  obtain ⟨F, HF⟩ : ∃ F, Hid (wB.heap.size = F) := ⟨_, Lib.hid rfl⟩
  have hFrow : (wB.alloc (.cells #[.slice none 0 0, .slice none 0 0] 50)).heap[F]? = some (.cells #[.slice none 0 0, .slice none 0 0] 50 (0, 0)) := by rw [← HF.out]; exact heap_alloc_new wB _
  have HFrow := Lib.hid hFrow
  clear hFrow
  go_wp2
  rw [HF.out]
  go_loopw [10, 11, 12, 13, 14, 15, 16, 21] (fun _ _ _ _ _ _ _ t wr => ∃ r : Nat, r ≤ 2 ∧ t = .int .i64 r ∧ Below wB.heap.size wB wr ∧ F < wr.heap.size ∧ ∃ u0 u1, Hid (wr.heap[F]? = some (.cells #[u0, u1] 50 (0, 0))) ∧
    (0 < r → ∃ a0 c0 b0 d0, u0 = .slice a0 na c0 ∧ u1 = .slice b0 nb d0 ∧ Hid (IntArg wr a0 na c0 LA) ∧ Hid (IntArg wr b0 nb d0 LB))) (fun _ _ _ _ _ _ _ t _ => 2 - (intOf t).toNat)
  case atStart => exact ⟨0, by omega, rfl, (Below.refl _ wB).alloc (Nat.le_refl _) _, by rw [← HF.out]; simp, _, _, HFrow, fun h => absurd h (Nat.lt_irrefl _)⟩
  case round =>
    obtain ⟨w0, hw0⟩ : ∃ z, z = wr := ⟨_, rfl⟩
    subst hw0
    obtain ⟨r, hr2, rfl, hB, hFlt, u0, u1, HFr, hfirst⟩ := hrel
    have BW := B0.trans (hB.mono B0.size)
    by_cases hlt : r < 2
    · have hcase : r = 0 ∨ r = 1 := by omega
      rcases hcase with rfl | rfl
      · clear hfirst
        go_wp2_with fail
        refine (List_any x (HE.out.below BW) (HT.out.below BW) (HA.out.below BW)).mono ?_
        rintro e w1' ⟨va, rfl, hrow, hb1'⟩
        rw [show (listL ss x).map (fun k : Nat => Value.int .i64 k) = LA.map (Value.int .i64) by rw [HLA.out, List.map_map]; rfl, show (listL ss x).length = na by rw [← HLn.out, HLA.out, List.length_map]] at hrow
        obtain ⟨aa, ca, rfl, hIa⟩ := ints_of_row hrow HLn.out.symm (by omega)
        have HIa := Lib.hid hIa
        have HRa := Lib.hid hrow
        clear hIa hrow
        have BW1 := BW.trans (hb1'.mono BW.size)
        go_wp2_with fail
        refine (Sets_any (HE.out.below BW1) (HA.out.below BW1) (HX.out.below BW1)).mono ?_
        rintro e w2' ⟨vb, rfl, hrow, hb2'⟩
        rw [show (setsL ss xs).map (fun k : Nat => Value.int .i64 k) = LB.map (Value.int .i64) by rw [HLB.out, List.map_map]; rfl, show (setsL ss xs).length = nb by rw [← HMn.out, HLB.out, List.length_map]] at hrow
        obtain ⟨ab, cb, rfl, hIb⟩ := ints_of_row hrow HMn.out.symm (by omega)
        have HIb := Lib.hid hIb
        have HRb := Lib.hid hrow
        clear hIb hrow
        have BW2 := BW1.trans (hb2'.mono BW1.size)
        go_wp2_with fail
        refine (Check_any (HE.out.below BW2) (HA.out.below BW2)).mono ?_
        rintro e w3' ⟨rfl, rfl⟩
        rw [HCk.out]
        go_wp2_with fail
        refine (String_any x (HE.out.below BW2) (HT.out.below BW2) (HA.out.below BW2)).mono ?_
        rintro e w4' ⟨rfl, hb4'⟩
        have BW4 := BW2.trans (hb4'.mono BW2.size)
        go_wp2_with fail
        refine (Find_any _ (HE.out.below BW4) (HA.out.below BW4)).mono ?_
        rintro e w5' ⟨rfl, rfl⟩
        have s1 := hb1'.size
        have s2 := hb2'.size
        have s4 := hb4'.size
        have HIa4 : Hid (IntArg w4' aa na ca LA) := Lib.hid ((HIa.out.below hb2').below hb4')
        have HIb4 : Hid (IntArg w4' ab nb cb LB) := Lib.hid (HIb.out.below hb4')
        have HNa := Lib.hid HIa.out.nils
        have HNb := Lib.hid HIb.out.nils
        have HMa : Hid ((LA.map (Value.int .i64)).length = na) := Lib.hid (by rw [List.length_map]; exact HLn.out)
        have HMb : Hid ((LB.map (Value.int .i64)).length = nb) := Lib.hid (by rw [List.length_map]; exact HMn.out)
        have b14 := hb2'.trans (hb4'.mono s2)
        have b04 := hb1'.trans (b14.mono s1)
        have HF4 : Hid (w4'.heap[F]? = some (.cells #[u0, u1] 50 (0, 0))) := Lib.hid (by rw [b04.block F hFlt]; exact HFr.out)
        go_wp2_with (first
          | (at_builtin; refine wpList_append_src (w0 := w4') rfl _ (.tmp 59) 33 rfl 3 i0 (.int .i64 0) 8 Tryd.underlying33 hi hz0 hz1 hz2 rfl _ rfl 0 [] (World.ownsRow_nil _ _ _ _) aa na ca rfl (LA.map (Value.int .i64)) HNa.out HMa.out (ints_at HIa4.out.cells) (ints_one _) (by unfold maxLen; omega) (by omega) (Below.refl _ w4') ?_; intro v5 w5 hown5 hg5 hB5; have HIb5 : Hid (IntArg w5 ab nb cb LB) := Lib.hid (HIb4.out.below hB5); have HF5 : Hid (w5.heap[F]? = some (.cells #[u0, u1] 50 (0, 0))) := Lib.hid (by rw [hB5.block F (by omega)]; exact HF4.out); rw [List.nil_append, Nat.zero_add] at hown5; obtain ⟨a5, c5, rfl, hI5⟩ := ints_of_row hown5 HLn.out.symm (by omega); have HI5 := Lib.hid hI5; have HO5 := Lib.hid hown5; clear hI5 hown5 hg5)
          | (at_builtin; refine wpList_append_src (w0 := w5) rfl _ (.tmp 61) 33 rfl 3 i0 (.int .i64 0) 8 Tryd.underlying33 hi hz0 hz1 hz2 rfl _ rfl 0 [] (World.ownsRow_nil _ _ _ _) ab nb cb rfl (LB.map (Value.int .i64)) HNb.out HMb.out (ints_at HIb5.out.cells) (ints_one _) (by unfold maxLen; omega) (by omega) (Below.refl _ w5) ?_; intro v6 w6 hown6 hg6 hB6; have HF6 : Hid (w6.heap[F]? = some (.cells #[u0, u1] 50 (0, 0))) := Lib.hid (by rw [hB6.block F (by have := hB5.size; omega)]; exact HF5.out); have hc0 : w6.cell? ⟨F, 0, none⟩ = some u0 := (by rw [cell_of_row w6 F 0 _ _ _ HF6.out]; rfl); have hc1 : w6.cell? ⟨F, 1, none⟩ = some u1 := (by rw [cell_of_row w6 F 1 _ _ _ HF6.out]; rfl); have hf0 := frozen_of_row w6 F 0 _ _ HF6.out; have hf1 := frozen_of_row w6 F 1 _ _ HF6.out; rw [List.nil_append, Nat.zero_add] at hown6; obtain ⟨a6, c6, rfl, hI6⟩ := ints_of_row hown6 HMn.out.symm (by omega); have HI6 := Lib.hid hI6; have HO6 := Lib.hid hown6; clear hI6 hown6 hg6))
        obtain ⟨w7, h7⟩ : ∃ w7, (w6.setCell ⟨F, 0, none⟩ (.slice a5 na c5)).setCell ⟨F, 1, none⟩ (.slice a6 nb c6) = w7 := ⟨_, rfl⟩
        rw [h7]
        clear hc0 hc1 hf0 hf1
        have s5 := hB5.size
        have s6 := hB6.size
        have b16 := b14.trans (hB5.mono (Nat.le_trans s2 s4))
        have b26 := b16.trans (hB6.mono (Nat.le_trans (Nat.le_trans s2 s4) s5))
        have B6 : Below wB.heap.size wB w6 := hB.trans ((b04.trans ((hB5.trans (hB6.mono s5)).mono (Nat.le_trans (Nat.le_trans s1 s2) s4))).mono hB.size)
        have g67 : w6.grownBy w7 (some F) := by rw [← h7]; exact (grown_setCell w6 ⟨F, 0, none⟩ _).trans (grown_setCell _ ⟨F, 1, none⟩ _)
        have B7 : Below wB.heap.size wB w7 := by rw [← h7]; exact (B6.setCell (p := ⟨F, 0, none⟩) (by rw [HF.out]; exact Nat.le_refl _) _).setCell (p := ⟨F, 1, none⟩) (by rw [HF.out]; exact Nat.le_refl _) _
        have HF7 : Hid (w7.heap[F]? = some (.cells #[.slice a5 na c5, .slice a6 nb c6] 50 (0, 0))) := Lib.hid (by
          rw [← h7, heap_setCell_same _ F 1 _ _ _ (heap_setCell_same w6 F 0 _ _ _ HF6.out)]
          rfl)
        have Hoa : Hid (∀ ad, aa = some ad → w0.heap.size ≤ ad.block ∧ ad.block < w1'.heap.size) := Lib.hid fun ad h => own_lt HRa.out ad.block (by rw [h]; rfl)
        have Hob : Hid (∀ ad, ab = some ad → w1'.heap.size ≤ ad.block ∧ ad.block < w2'.heap.size) := Lib.hid fun ad h => own_lt HRb.out ad.block (by rw [h]; rfl)
        have Ho5 : Hid (∀ ad, a5 = some ad → w4'.heap.size ≤ ad.block ∧ ad.block < w5.heap.size) := Lib.hid fun ad h => own_lt HO5.out ad.block (by rw [h]; rfl)
        have Ho6 : Hid (∀ ad, a6 = some ad → w5.heap.size ≤ ad.block ∧ ad.block < w6.heap.size) := Lib.hid fun ad h => own_lt HO6.out ad.block (by rw [h]; rfl)
        have Wa : Writable w7 aa na := ((writable_of_row HRa.out).below b26).kept g67 (fun ad h e => by have := Hoa.out ad h; cases e; omega)
        have Wb : Writable w7 ab nb := (((writable_of_row HRb.out).below hb4').below (hB5.trans (hB6.mono s5))).kept g67 (fun ad h e => by have := Hob.out ad h; cases e; omega)
        have H57 : Hid (IntArg w7 a5 na c5 LA) := Lib.hid ((HI5.out.below hB6).kept g67 (fun ad h e => by have := Ho5.out ad h; cases e; omega))
        have H67 : Hid (IntArg w7 a6 nb c6 LB) := Lib.hid (HI6.out.kept g67 (fun ad h e => by have := Ho6.out ad h; cases e; omega))
        have HWa := Lib.hid Wa
        have HWb := Lib.hid Wb
        have F7 : F < w7.heap.size := (Array.getElem?_eq_some_iff.1 HF7.out).1
        clear Wa Wb h7
        go_loopw [15, 66] (fun _ i wx => ∃ k : Nat, k ≤ na ∧ i = .int .i64 k ∧ Hid (Writable wx aa na) ∧ w7.grownBy wx (Value.slice aa na ca).ownBlock) (fun _ i _ => na - (intOf i).toNat)
        case atStart => exact ⟨0, Nat.zero_le _, rfl, HWa, grown_same _ _⟩
        case round =>
          obtain ⟨wx, hwx⟩ : ∃ z, z = wr := ⟨_, rfl⟩
          subst hwx
          obtain ⟨k, hk, rfl, hW, hg⟩ := hrel
          by_cases hlk : k < na
          · obtain ⟨b, hab, cur, t, hb, hsz⟩ := hW.out k hlk
            subst hab
            have hcell := cell_of_row wx b k cur t _ hb
            rw [Array.getElem?_eq_getElem (show k < cur.size by omega)] at hcell
            have hfr := frozen_of_row wx b k cur t hb
            clear hb
            go_wp2
            go_roundw
            case rel => exact ⟨k + 1, by omega, by go_num, Lib.hid hW.out.set, hg.trans (grown_setCell wx ⟨b, k, none⟩ _)⟩
            case measure => simp [intOf]; omega
          · have hown : ∀ q, (Value.slice aa na ca).ownBlock = some q → w0.heap.size ≤ q ∧ q < w1'.heap.size := own_lt HRa.out
            have B8 : Below wB.heap.size wB wx := B7.grown hg B7.size (fun q h => by have := hown q h; have := hB.size; omega)
            have HWb8 : Hid (Writable wx ab nb) := Lib.hid (HWb.out.kept hg (fun ad h e => by have := Hob.out ad h; have := hown _ e.symm; omega))
            have H58 : Hid (IntArg wx a5 na c5 LA) := Lib.hid (H57.out.kept hg (fun ad h e => by have := Ho5.out ad h; have := hown _ e.symm; omega))
            have H68 : Hid (IntArg wx a6 nb c6 LB) := Lib.hid (H67.out.kept hg (fun ad h e => by have := Ho6.out ad h; have := hown _ e.symm; omega))
            have HF8 : Hid (wx.heap[F]? = some (.cells #[.slice a5 na c5, .slice a6 nb c6] 50 (0, 0))) := Lib.hid (by
              rw [hg.block F F7 (fun e => by have := hown F e.symm; omega)]
              exact HF7.out)
            have F8 : F < wx.heap.size := (Array.getElem?_eq_some_iff.1 HF8.out).1
            clear hown hW hg
            go_wp2
            go_loopw [16, 75] (fun _ i wy => ∃ k : Nat, k ≤ nb ∧ i = .int .i64 k ∧ Hid (Writable wy ab nb) ∧ wx.grownBy wy (Value.slice ab nb cb).ownBlock) (fun _ i _ => nb - (intOf i).toNat)
            case atStart => exact ⟨0, Nat.zero_le _, rfl, HWb8, grown_same _ _⟩
            case round =>
              obtain ⟨wy, hwy⟩ : ∃ z, z = wr := ⟨_, rfl⟩
              subst hwy
              obtain ⟨k2, hk2, rfl, hW, hg⟩ := hrel
              by_cases hlk2 : k2 < nb
              · obtain ⟨b, hab, cur, t, hb, hsz⟩ := hW.out k2 hlk2
                subst hab
                have hcell := cell_of_row wy b k2 cur t _ hb
                rw [Array.getElem?_eq_getElem (show k2 < cur.size by omega)] at hcell
                have hfr := frozen_of_row wy b k2 cur t hb
                clear hb
                go_wp2
                go_roundw
                case rel => exact ⟨k2 + 1, by omega, by go_num, Lib.hid hW.out.set, hg.trans (grown_setCell wy ⟨b, k2, none⟩ _)⟩
                case measure => simp [intOf]; omega
              · have hown : ∀ q, (Value.slice ab nb cb).ownBlock = some q → w1'.heap.size ≤ q ∧ q < w2'.heap.size := own_lt HRb.out
                have B9 : Below wB.heap.size wB wy := B8.grown hg B8.size (fun q h => by have := hown q h; have := hB.size; omega)
                have H59 : Hid (IntArg wy a5 na c5 LA) := Lib.hid (H58.out.kept hg (fun ad h e => by have := Ho5.out ad h; have := hown _ e.symm; omega))
                have H69 : Hid (IntArg wy a6 nb c6 LB) := Lib.hid (H68.out.kept hg (fun ad h e => by have := Ho6.out ad h; have := hown _ e.symm; omega))
                have HF9 : Hid (wy.heap[F]? = some (.cells #[.slice a5 na c5, .slice a6 nb c6] 50 (0, 0))) := Lib.hid (by
                  rw [hg.block F F8 (fun e => by have := hown F e.symm; omega)]
                  exact HF8.out)
                have F9 : F < wy.heap.size := (Array.getElem?_eq_some_iff.1 HF9.out).1
                have BW9 := B0.trans (B9.mono B0.size)
                clear hown hW hg
                go_wp2_with fail
                refine (SameStrings_any a n c ss an n cn ss wy HA.out.len HA.out.len HA.out.big HA.out.big (HA.out.below BW9).cells (HN.out.below B9).cells).mono ?_
                rintro e w' ⟨rfl, rfl⟩
                rw [decide_eq_true rfl]
                go_wp2_with fail
                refine (SameInts_any a' m c' xs ao m co xs wy HX.out.len HX.out.len HX.out.big HX.out.big (HX.out.below BW9).cells (HO.out.below B9).cells).mono ?_
                rintro e w' ⟨rfl, rfl⟩
                rw [decide_eq_true rfl]
                go_wp2
                go_roundw
                case rel => exact ⟨1, by omega, by go_num, B9, F9, _, _, HF9, fun _ => ⟨a5, c5, a6, c6, rfl, rfl, H59, H69⟩⟩
                case measure => simp [intOf]
      · obtain ⟨a0, c0, b0, d0, rfl, rfl, hfa, hfb⟩ := hfirst (by omega)
        clear hfirst
        go_wp2_with fail
        refine (List_any x (HE.out.below BW) (HT.out.below BW) (HA.out.below BW)).mono ?_
        rintro e w1' ⟨va, rfl, hrow, hb1'⟩
        rw [show (listL ss x).map (fun k : Nat => Value.int .i64 k) = LA.map (Value.int .i64) by rw [HLA.out, List.map_map]; rfl, show (listL ss x).length = na by rw [← HLn.out, HLA.out, List.length_map]] at hrow
        obtain ⟨aa, ca, rfl, hIa⟩ := ints_of_row hrow HLn.out.symm (by omega)
        have HIa := Lib.hid hIa
        have HRa := Lib.hid hrow
        clear hIa hrow
        have BW1 := BW.trans (hb1'.mono BW.size)
        go_wp2_with fail
        refine (Sets_any (HE.out.below BW1) (HA.out.below BW1) (HX.out.below BW1)).mono ?_
        rintro e w2' ⟨vb, rfl, hrow, hb2'⟩
        rw [show (setsL ss xs).map (fun k : Nat => Value.int .i64 k) = LB.map (Value.int .i64) by rw [HLB.out, List.map_map]; rfl, show (setsL ss xs).length = nb by rw [← HMn.out, HLB.out, List.length_map]] at hrow
        obtain ⟨ab, cb, rfl, hIb⟩ := ints_of_row hrow HMn.out.symm (by omega)
        have HIb := Lib.hid hIb
        have HRb := Lib.hid hrow
        clear hIb hrow
        have BW2 := BW1.trans (hb2'.mono BW1.size)
        go_wp2_with fail
        refine (Check_any (HE.out.below BW2) (HA.out.below BW2)).mono ?_
        rintro e w3' ⟨rfl, rfl⟩
        rw [HCk.out]
        go_wp2_with fail
        refine (String_any x (HE.out.below BW2) (HT.out.below BW2) (HA.out.below BW2)).mono ?_
        rintro e w4' ⟨rfl, hb4'⟩
        have BW4 := BW2.trans (hb4'.mono BW2.size)
        go_wp2_with fail
        refine (Find_any _ (HE.out.below BW4) (HA.out.below BW4)).mono ?_
        rintro e w5' ⟨rfl, rfl⟩
        have s1 := hb1'.size
        have s2 := hb2'.size
        have s4 := hb4'.size
        have HIa4 : Hid (IntArg w4' aa na ca LA) := Lib.hid ((HIa.out.below hb2').below hb4')
        have HIb4 : Hid (IntArg w4' ab nb cb LB) := Lib.hid (HIb.out.below hb4')
        have HNa := Lib.hid HIa.out.nils
        have HNb := Lib.hid HIb.out.nils
        have HMa : Hid ((LA.map (Value.int .i64)).length = na) := Lib.hid (by rw [List.length_map]; exact HLn.out)
        have HMb : Hid ((LB.map (Value.int .i64)).length = nb) := Lib.hid (by rw [List.length_map]; exact HMn.out)
        have b14 := hb2'.trans (hb4'.mono s2)
        have b04 := hb1'.trans (b14.mono s1)
        have HF4 : Hid (w4'.heap[F]? = some (.cells #[.slice a0 na c0, .slice b0 nb d0] 50 (0, 0))) := Lib.hid (by rw [b04.block F hFlt]; exact HFr.out)
        have HFa : Hid (IntArg w4' a0 na c0 LA) := Lib.hid (hfa.out.below b04)
        have HFb : Hid (IntArg w4' b0 nb d0 LB) := Lib.hid (hfb.out.below b04)
        have hc40 : w4'.cell? ⟨F, 0, none⟩ = some (.slice a0 na c0) := (by rw [cell_of_row w4' F 0 _ _ _ HF4.out]; rfl)
        have hc41 : w4'.cell? ⟨F, 1, none⟩ = some (.slice b0 nb d0) := (by rw [cell_of_row w4' F 1 _ _ _ HF4.out]; rfl)
        go_wp2_with fail
        refine (SameInts_any aa na ca LA a0 na c0 LA w4' HLn.out.symm HLn.out.symm (by omega) (by omega) HIa4.out.cells HFa.out.cells).mono ?_
        rintro e w' ⟨rfl, rfl⟩
        rw [decide_eq_true rfl]
        go_wp2_with fail
        refine (SameInts_any ab nb cb LB b0 nb d0 LB w4' HMn.out.symm HMn.out.symm (by omega) (by omega) HIb4.out.cells HFb.out.cells).mono ?_
        rintro e w' ⟨rfl, rfl⟩
        rw [decide_eq_true rfl]
        clear hc40 hc41
        go_wp2_with (first
          | (at_builtin; refine wpList_append_src (w0 := w4') rfl _ (.tmp 59) 33 rfl 3 i0 (.int .i64 0) 8 Tryd.underlying33 hi hz0 hz1 hz2 rfl _ rfl 0 [] (World.ownsRow_nil _ _ _ _) aa na ca rfl (LA.map (Value.int .i64)) HNa.out HMa.out (ints_at HIa4.out.cells) (ints_one _) (by unfold maxLen; omega) (by omega) (Below.refl _ w4') ?_; intro v5 w5 hown5 hg5 hB5; have HIb5 : Hid (IntArg w5 ab nb cb LB) := Lib.hid (HIb4.out.below hB5); have HF5 : Hid (w5.heap[F]? = some (.cells #[.slice a0 na c0, .slice b0 nb d0] 50 (0, 0))) := Lib.hid (by rw [hB5.block F (by omega)]; exact HF4.out); rw [List.nil_append, Nat.zero_add] at hown5; obtain ⟨a5, c5, rfl, hI5⟩ := ints_of_row hown5 HLn.out.symm (by omega); have HI5 := Lib.hid hI5; have HO5 := Lib.hid hown5; clear hI5 hown5 hg5)
          | (at_builtin; refine wpList_append_src (w0 := w5) rfl _ (.tmp 61) 33 rfl 3 i0 (.int .i64 0) 8 Tryd.underlying33 hi hz0 hz1 hz2 rfl _ rfl 0 [] (World.ownsRow_nil _ _ _ _) ab nb cb rfl (LB.map (Value.int .i64)) HNb.out HMb.out (ints_at HIb5.out.cells) (ints_one _) (by unfold maxLen; omega) (by omega) (Below.refl _ w5) ?_; intro v6 w6 hown6 hg6 hB6; have HF6 : Hid (w6.heap[F]? = some (.cells #[.slice a0 na c0, .slice b0 nb d0] 50 (0, 0))) := Lib.hid (by rw [hB6.block F (by have := hB5.size; omega)]; exact HF5.out); have hc0 : w6.cell? ⟨F, 0, none⟩ = some (.slice a0 na c0) := (by rw [cell_of_row w6 F 0 _ _ _ HF6.out]; rfl); have hc1 : w6.cell? ⟨F, 1, none⟩ = some (.slice b0 nb d0) := (by rw [cell_of_row w6 F 1 _ _ _ HF6.out]; rfl); have hf0 := frozen_of_row w6 F 0 _ _ HF6.out; have hf1 := frozen_of_row w6 F 1 _ _ HF6.out; rw [List.nil_append, Nat.zero_add] at hown6; obtain ⟨a6, c6, rfl, hI6⟩ := ints_of_row hown6 HMn.out.symm (by omega); have HI6 := Lib.hid hI6; have HO6 := Lib.hid hown6; clear hI6 hown6 hg6))
        obtain ⟨w7, h7⟩ : ∃ w7, (w6.setCell ⟨F, 0, none⟩ (.slice a5 na c5)).setCell ⟨F, 1, none⟩ (.slice a6 nb c6) = w7 := ⟨_, rfl⟩
        rw [h7]
        clear hc0 hc1 hf0 hf1
        have s5 := hB5.size
        have s6 := hB6.size
        have b16 := b14.trans (hB5.mono (Nat.le_trans s2 s4))
        have b26 := b16.trans (hB6.mono (Nat.le_trans (Nat.le_trans s2 s4) s5))
        have B6 : Below wB.heap.size wB w6 := hB.trans ((b04.trans ((hB5.trans (hB6.mono s5)).mono (Nat.le_trans (Nat.le_trans s1 s2) s4))).mono hB.size)
        have g67 : w6.grownBy w7 (some F) := by rw [← h7]; exact (grown_setCell w6 ⟨F, 0, none⟩ _).trans (grown_setCell _ ⟨F, 1, none⟩ _)
        have B7 : Below wB.heap.size wB w7 := by rw [← h7]; exact (B6.setCell (p := ⟨F, 0, none⟩) (by rw [HF.out]; exact Nat.le_refl _) _).setCell (p := ⟨F, 1, none⟩) (by rw [HF.out]; exact Nat.le_refl _) _
        have HF7 : Hid (w7.heap[F]? = some (.cells #[.slice a5 na c5, .slice a6 nb c6] 50 (0, 0))) := Lib.hid (by
          rw [← h7, heap_setCell_same _ F 1 _ _ _ (heap_setCell_same w6 F 0 _ _ _ HF6.out)]
          rfl)
        have Hoa : Hid (∀ ad, aa = some ad → w0.heap.size ≤ ad.block ∧ ad.block < w1'.heap.size) := Lib.hid fun ad h => own_lt HRa.out ad.block (by rw [h]; rfl)
        have Hob : Hid (∀ ad, ab = some ad → w1'.heap.size ≤ ad.block ∧ ad.block < w2'.heap.size) := Lib.hid fun ad h => own_lt HRb.out ad.block (by rw [h]; rfl)
        have Ho5 : Hid (∀ ad, a5 = some ad → w4'.heap.size ≤ ad.block ∧ ad.block < w5.heap.size) := Lib.hid fun ad h => own_lt HO5.out ad.block (by rw [h]; rfl)
        have Ho6 : Hid (∀ ad, a6 = some ad → w5.heap.size ≤ ad.block ∧ ad.block < w6.heap.size) := Lib.hid fun ad h => own_lt HO6.out ad.block (by rw [h]; rfl)
        have Wa : Writable w7 aa na := ((writable_of_row HRa.out).below b26).kept g67 (fun ad h e => by have := Hoa.out ad h; cases e; omega)
        have Wb : Writable w7 ab nb := (((writable_of_row HRb.out).below hb4').below (hB5.trans (hB6.mono s5))).kept g67 (fun ad h e => by have := Hob.out ad h; cases e; omega)
        have H57 : Hid (IntArg w7 a5 na c5 LA) := Lib.hid ((HI5.out.below hB6).kept g67 (fun ad h e => by have := Ho5.out ad h; cases e; omega))
        have H67 : Hid (IntArg w7 a6 nb c6 LB) := Lib.hid (HI6.out.kept g67 (fun ad h e => by have := Ho6.out ad h; cases e; omega))
        have HWa := Lib.hid Wa
        have HWb := Lib.hid Wb
        have F7 : F < w7.heap.size := (Array.getElem?_eq_some_iff.1 HF7.out).1
        clear Wa Wb h7
        go_loopw [15, 66] (fun _ i wx => ∃ k : Nat, k ≤ na ∧ i = .int .i64 k ∧ Hid (Writable wx aa na) ∧ w7.grownBy wx (Value.slice aa na ca).ownBlock) (fun _ i _ => na - (intOf i).toNat)
        case atStart => exact ⟨0, Nat.zero_le _, rfl, HWa, grown_same _ _⟩
        case round =>
          obtain ⟨wx, hwx⟩ : ∃ z, z = wr := ⟨_, rfl⟩
          subst hwx
          obtain ⟨k, hk, rfl, hW, hg⟩ := hrel
          by_cases hlk : k < na
          · obtain ⟨b, hab, cur, t, hb, hsz⟩ := hW.out k hlk
            subst hab
            have hcell := cell_of_row wx b k cur t _ hb
            rw [Array.getElem?_eq_getElem (show k < cur.size by omega)] at hcell
            have hfr := frozen_of_row wx b k cur t hb
            clear hb
            go_wp2
            go_roundw
            case rel => exact ⟨k + 1, by omega, by go_num, Lib.hid hW.out.set, hg.trans (grown_setCell wx ⟨b, k, none⟩ _)⟩
            case measure => simp [intOf]; omega
          · have hown : ∀ q, (Value.slice aa na ca).ownBlock = some q → w0.heap.size ≤ q ∧ q < w1'.heap.size := own_lt HRa.out
            have B8 : Below wB.heap.size wB wx := B7.grown hg B7.size (fun q h => by have := hown q h; have := hB.size; omega)
            have HWb8 : Hid (Writable wx ab nb) := Lib.hid (HWb.out.kept hg (fun ad h e => by have := Hob.out ad h; have := hown _ e.symm; omega))
            have H58 : Hid (IntArg wx a5 na c5 LA) := Lib.hid (H57.out.kept hg (fun ad h e => by have := Ho5.out ad h; have := hown _ e.symm; omega))
            have H68 : Hid (IntArg wx a6 nb c6 LB) := Lib.hid (H67.out.kept hg (fun ad h e => by have := Ho6.out ad h; have := hown _ e.symm; omega))
            have HF8 : Hid (wx.heap[F]? = some (.cells #[.slice a5 na c5, .slice a6 nb c6] 50 (0, 0))) := Lib.hid (by
              rw [hg.block F F7 (fun e => by have := hown F e.symm; omega)]
              exact HF7.out)
            have F8 : F < wx.heap.size := (Array.getElem?_eq_some_iff.1 HF8.out).1
            clear hown hW hg
            go_wp2
            go_loopw [16, 75] (fun _ i wy => ∃ k : Nat, k ≤ nb ∧ i = .int .i64 k ∧ Hid (Writable wy ab nb) ∧ wx.grownBy wy (Value.slice ab nb cb).ownBlock) (fun _ i _ => nb - (intOf i).toNat)
            case atStart => exact ⟨0, Nat.zero_le _, rfl, HWb8, grown_same _ _⟩
            case round =>
              obtain ⟨wy, hwy⟩ : ∃ z, z = wr := ⟨_, rfl⟩
              subst hwy
              obtain ⟨k2, hk2, rfl, hW, hg⟩ := hrel
              by_cases hlk2 : k2 < nb
              · obtain ⟨b, hab, cur, t, hb, hsz⟩ := hW.out k2 hlk2
                subst hab
                have hcell := cell_of_row wy b k2 cur t _ hb
                rw [Array.getElem?_eq_getElem (show k2 < cur.size by omega)] at hcell
                have hfr := frozen_of_row wy b k2 cur t hb
                clear hb
                go_wp2
                go_roundw
                case rel => exact ⟨k2 + 1, by omega, by go_num, Lib.hid hW.out.set, hg.trans (grown_setCell wy ⟨b, k2, none⟩ _)⟩
                case measure => simp [intOf]; omega
              · have hown : ∀ q, (Value.slice ab nb cb).ownBlock = some q → w1'.heap.size ≤ q ∧ q < w2'.heap.size := own_lt HRb.out
                have B9 : Below wB.heap.size wB wy := B8.grown hg B8.size (fun q h => by have := hown q h; have := hB.size; omega)
                have H59 : Hid (IntArg wy a5 na c5 LA) := Lib.hid (H58.out.kept hg (fun ad h e => by have := Ho5.out ad h; have := hown _ e.symm; omega))
                have H69 : Hid (IntArg wy a6 nb c6 LB) := Lib.hid (H68.out.kept hg (fun ad h e => by have := Ho6.out ad h; have := hown _ e.symm; omega))
                have HF9 : Hid (wy.heap[F]? = some (.cells #[.slice a5 na c5, .slice a6 nb c6] 50 (0, 0))) := Lib.hid (by
                  rw [hg.block F F8 (fun e => by have := hown F e.symm; omega)]
                  exact HF8.out)
                have F9 : F < wy.heap.size := (Array.getElem?_eq_some_iff.1 HF9.out).1
                have BW9 := B0.trans (B9.mono B0.size)
                clear hown hW hg
                go_wp2_with fail
                refine (SameStrings_any a n c ss an n cn ss wy HA.out.len HA.out.len HA.out.big HA.out.big (HA.out.below BW9).cells (HN.out.below B9).cells).mono ?_
                rintro e w' ⟨rfl, rfl⟩
                rw [decide_eq_true rfl]
                go_wp2_with fail
                refine (SameInts_any a' m c' xs ao m co xs wy HX.out.len HX.out.len HX.out.big HX.out.big (HX.out.below BW9).cells (HO.out.below B9).cells).mono ?_
                rintro e w' ⟨rfl, rfl⟩
                rw [decide_eq_true rfl]
                go_wp2
                go_roundw
                case rel => exact ⟨2, by omega, by go_num, B9, F9, _, _, HF9, fun _ => ⟨a5, c5, a6, c6, rfl, rfl, H59, H69⟩⟩
                case measure => simp [intOf]
    · go_wp2_with fail
      refine (awake_any (HE.out.below BW) (HT.out.below BW)).mono ?_
      rintro e w8 ⟨rfl, hb8⟩
      go_wp2
      go_ret
      exact ⟨rfl, BW.trans (hb8.mono BW.size)⟩
end Go.Proofs.YtcbmlchlllpnoaaDoor
