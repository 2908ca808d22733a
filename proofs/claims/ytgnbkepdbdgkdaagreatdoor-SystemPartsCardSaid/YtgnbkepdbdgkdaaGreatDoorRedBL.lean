/- redirect, with a numbering's bound method. -/
import Derived.Test.YtgnbkepdbdgkdaaGreatDoorNbrBL
import Derived.Test.YtgnbkepdbdgkdaaGreatDoorRedPlL
import Derived.Test.YtgnbkepdbdgkdaaGreatDoorJq18
import Derived.Test.YtgnbkepdbdgkdaaGreatDoorOWithL
namespace Go.Proofs.YtgnbkepdbdgkdaaGreatDoor
open Go.RowKit Go.Sort Pl

section
variable {W W1 W' : World}
theorem Kp.of_nb3 {r1 r2 r3 : Option Nat} (h : Nb3 W W' r1 r2 r3) : Kp W W' (fun k => some k = r1 ∨ some k = r2 ∨ some k = r3) := by
  obtain ⟨W1, W2, g1, g2, g3⟩ := h
  have a1 : Kp W W1 (fun k => some k = r1 ∨ some k = r2 ∨ some k = r3) := (Kp.of_grown g1).mono (fun k _ h => .inl h)
  have a2 := a1.trans (Kp.of_grown g2) (fun k _ h => .inr (.inl h))
  exact a2.trans (Kp.of_grown g3) (fun k _ h => .inr (.inr h))
theorem NbAt.alloc {B nb M : Nat} {sv : Value} {L : List Nat} (h : NbAt W B nb M sv L) (o : Obj) : NbAt (W.alloc o) B nb M sv L :=
  ⟨h.box.alloc o, tab_kept h.tab (World.grownBy_alloc W o none) (by simp), World.ownsRow.alloc h.lst o⟩
theorem NbAt.below {B nb M : Nat} {sv : Value} {L : List Nat} (h : NbAt W B nb M sv L) (hb : Below W.heap.size W W') : NbAt W' B nb M sv L :=
  ⟨up_whole hb h.box, tab_kept h.tab (below_grown hb) (by simp), own_up' h.lst hb⟩
theorem NbAt.grown {B nb M base : Nat} {sv v : Value} {L : List Nat} {e : TypeId} {size n : Nat} {xs : List Value} (h : NbAt W B nb M sv L) (hg : W.grownBy W' v.ownBlock) (hO : W.ownsRow base e size v n xs) (h1 : e ≠ 3) (h2 : e ≠ 97) : NbAt W' B nb M sv L :=
  ⟨h.box.grown hg (own_whole hO h.box h2), tab_kept h.tab hg (tab_own h.tab hO), World.ownsRow.kept h.lst hg (own_apart h.lst hO (Ne.symm h1))⟩
end

theorem Nb3.drew {W W' : World} {r1 r2 r3 : Option Nat} (h : Nb3 W.drew W' r1 r2 r3) : Nb3 W W' r1 r2 r3 := by
  obtain ⟨W1, W2, g1, g2, g3⟩ := h
  exact ⟨W1, W2, grown_drew g1, g2, g3⟩
theorem NbAt.drew {W : World} {B nb M : Nat} {sv : Value} {L : List Nat} (h : NbAt W B nb M sv L) : NbAt W.drew B nb M sv L := ⟨h.box, h.tab, h.lst⟩

set_option maxRecDepth 100000 in
set_option maxHeartbeats 16000000 in
theorem redirect_any {w00 w : World} {a : Option Addr} {n c nb M : Nat} {sv : Value} {L : List Nat} {es : List Edg} (hb0 : Below w00.heap.size w00 w) (hE : EdgeArg w00 a n c es) (hN : NbAt w w00.heap.size nb M sv L) (hnb : w00.heap.size ≤ nb) (hM : w00.heap.size ≤ M)
    (hes : ∀ j, j < n → 0 ≤ (edAt es j).2) (hn : n ≤ 400000) (hL : ∀ j, j ≤ n → (ordE L (es.take j)).length ≤ 5000) :
    Calls Tryz.prog 48 #[.slice a n c, .func (.func 49) #[.pointer (some ⟨nb, 0, none⟩)] #[]] w fun e w' => ∃ v sv', e = .returned v ∧ EdgeOwn w' w.heap.size v (sortEd (redL L es)) ∧ NbAt w' w00.heap.size nb M sv' (ordE L es) ∧
      Kp w w' (fun k => k = nb ∨ k = M ∨ some k = sv.ownBlock) ∧ ∀ q, sv'.ownBlock = some q → w.heap.size ≤ q ∨ some q = sv.ownBlock := by
  obtain ⟨i1, hi1, hz10, hz11, hz12⟩ := info_parts infoEdge
  have HE := Lib.hid hE
  have HN := Lib.hid hN
  have HB0 := Lib.hid hb0
  have HEs := Lib.hid hes
  have HL5 := Lib.hid hL
  have HEl : Hid (es.length = n) := Lib.hid hE.len.symm
  have hz := hb0.size
  clear hE hN hb0 hes hL
  go_enter Tryz.func48, Tryz.ntmps48
  go_upto_region 3 with (fail)
  go_loopw [5, 7, 10] (fun ev _ q wr => ∃ (j : Nat) (s2 : Value) (ea : Option Addr) (ec : Nat), q = .int .i64 j ∧ j ≤ n ∧ ev = .slice ea j ec ∧ Hid (NbAt wr w00.heap.size nb M s2 (ordE L (es.take j))) ∧ Hid (Kp w wr (fun k => k = nb ∨ k = M ∨ some k = sv.ownBlock)) ∧ Hid (∀ q, s2.ownBlock = some q → w.heap.size ≤ q ∨ some q = sv.ownBlock) ∧ Hid (wr.ownsRow w.heap.size 87 2 (.slice ea j ec) j (ecells (redL L (es.take j))))) (fun _ _ q _ => n - (intOf q).toNat)
  case atStart => exact ⟨0, sv, none, 0, rfl, Nat.zero_le _, rfl, HN, Lib.hid (Kp.refl _ _), Lib.hid (fun q hq => .inr hq.symm), Lib.hid (World.ownsRow_nil _ _ _ _)⟩
  case round =>
    as_aux_lemma =>
    obtain ⟨w3, hw3⟩ : ∃ z, z = wr := ⟨_, rfl⟩
    subst hw3
    obtain ⟨j, s2, ea, ec, rfl, hj, rfl, hNj, hKj, hSj, hOj⟩ := hrel
    by_cases hlt : j < n
    · have hjl : j < es.length := by rw [HEl.out]; exact hlt
      have hB3 : Below w00.heap.size w00 w3 := HB0.out.trans (hKj.out.below hz (fun k hk => by
        rcases hk with rfl | rfl | hk
        · exact hnb
        · exact hM
        · exact own_ge HN.out.lst k hk.symm))
      obtain ⟨be, oe, rfl, d1, d2⟩ := (HE.out.cells.below hB3) j hjl
      obtain ⟨u, HU⟩ : ∃ z, Hid ((edAt es j).1 = z) := ⟨_, Lib.hid rfl⟩
      obtain ⟨y, hyy⟩ := Int.eq_ofNat_of_zero_le (HEs.out j hlt)
      have HVv : Hid ((edAt es j).2.toNat = y) := Lib.hid (by rw [hyy]; rfl)
      rw [HU.out] at d1
      rw [hyy] at d2
      have HNx : Hid (ordE L (es.take (j + 1)) = cAdd (ordE L (es.take j)) y) := Lib.hid (by rw [ordE_next hjl, HVv.out])
      obtain ⟨ix, HIx⟩ : ∃ z : Nat, Hid ((cAdd (ordE L (es.take j)) y).idxOf y = z) := ⟨_, Lib.hid rfl⟩
      have HRx : Hid (redL L (es.take (j + 1)) = redL L (es.take j) ++ [(u, (ix : Int))]) := Lib.hid (by rw [redL_next hjl, HVv.out, HIx.out, HU.out])
      have hal : Below w3.heap.size w3 (w3.alloc (.cells #[.int .i64 u, .int .i64 (y : Int)] 87)) := (Below.refl _ w3).alloc (Nat.le_refl _) _
      have hWe := Whole.new w3 87 #[.int .i64 u, .int .i64 (y : Int)]
      have hO8 := hOj.out.alloc (.cells #[.int .i64 u, .int .i64 (y : Int)] 87)
      have hN8 := hNj.out.alloc (.cells #[.int .i64 u, .int .i64 (y : Int)] 87)
      have hK8 := hKj.out.trans (Kp.of_below hal (fun _ => False)) (fun k _ h => h.elim)
      obtain ⟨w8, HW8⟩ : ∃ z, Hid (w3.alloc (.cells #[.int .i64 u, .int .i64 (y : Int)] 87) = z) := ⟨_, Lib.hid rfl⟩
      rw [HW8.out] at hWe hO8 hN8 hK8
      obtain ⟨e8, HE8⟩ : ∃ z, Hid (w3.heap.size = z) := ⟨_, Lib.hid rfl⟩
      rw [HE8.out] at hWe
      have t0 := hWe.cell 0
      have t1 := hWe.cell 1
      simp only [List.getElem?_toArray, List.getElem?_cons_succ, List.getElem?_cons_zero] at t0 t1
      have HN8 := Lib.hid hN8
      have HO8 := Lib.hid hO8
      have HK8 := Lib.hid hK8
      have HWe := Lib.hid hWe
      have HNeq : Hid (some e8 ≠ (Value.slice ea j ec).ownBlock) := Lib.hid (fun e => by
        have := (hOj.out.lt e8 e.symm).2
        have := HE8.out
        omega)
      have HZ8 : Hid (w.heap.size ≤ w8.heap.size) := Lib.hid hK8.size
      have HL8 : Hid ((ordE L (es.take j)).length ≤ 5000) := Lib.hid (HL5.out j hj)
      have HBox : Hid (∀ wN, Nb3 w8 wN (some M) s2.ownBlock (some nb) → Whole wN e8 87 #[.int .i64 u, .int .i64 (y : Int)]) := Lib.hid (fun wN h3 =>
        h3.whole hWe (fun e => tab_whole hN8.tab hWe (by simpa using e)) (own_whole hN8.lst hWe (by decide)) (fun e => whole_ne hWe hN8.box (by decide) (by simpa using e)))
      have HOw : Hid (∀ wN, Nb3 w8 wN (some M) s2.ownBlock (some nb) → wN.ownsRow w.heap.size 87 2 (.slice ea j ec) j (ecells (redL L (es.take j)))) := Lib.hid (fun wN h3 =>
        h3.own hO8 (.inr (tab_own hN8.tab hO8).symm) (own_apart hO8 hN8.lst (by decide)) (.inr (own_whole hO8 hN8.box (by decide)).symm))
      clear hal hWe hO8 hN8 hK8 hB3 hjl
      go_upto_region 5 with (fail)
      rw [HW8.out, HE8.out]
      clear d1 d2
      have kD : w8.drew.cell? ⟨e8, 0, none⟩ = some (.int .i64 u) ∧ w8.drew.cell? ⟨e8, 1, none⟩ = some (.int .i64 (y : Int)) := ⟨t0, t1⟩
      go_region_held3 (fun w' => w'.cell? ⟨e8, 0, none⟩ = some (.int .i64 u) ∧ w'.cell? ⟨e8, 1, none⟩ = some (.int .i64 (y : Int)))
        ((with_reducible (first | assumption | exact two_new kN _ | exact kN | exact kD | exact kK)))
        (first
          | (go_at_call 49; refine (number_any (w := w8.drew) HN8.out.drew (Nat.le_trans hz HZ8.out) HL8.out y).mono ?_; rw [HIx.out]; rintro e wN ⟨s3, rfl, hN3, h3, hat3⟩; have h3 := h3.drew; have hO9 := HOw.out wN h3; have hX := HBox.out wN h3; have kN : wN.cell? ⟨e8, 0, none⟩ = some (.int .i64 u) ∧ wN.cell? ⟨e8, 1, none⟩ = some (.int .i64 (y : Int)) := ⟨hX.cell 0, hX.cell 1⟩; have hSz := (Kp.of_nb3 h3).size)
          | (refine step_append_sz rfl (.tmp 14) (.tmp 22) 77 (by rfl) w.heap.size 87 i1 (.agg #[.int .i64 0, .int .i64 0]) 2 16 Tryz.underlying77 hi1 hz10 hz11 hz12 rfl (by decide) (.slice ea j ec) (by rfl) j (ecells (redL L (es.take j))) (hO9.alloc _) (some ⟨wN.heap.size, 0, none⟩) 1 1 (by rfl) [.int .i64 u, .int .i64 (ix : Int)] (fun h => by cases h) rfl (pair_src _ _ _ _) (by simp [Value.oneCell']) (by unfold maxLen; omega) (by omega) (Nat.le_trans (Nat.le_trans HZ8.out hSz) (by simp)) ?_; intro v wB hB2 hg2 hat2; clear hat2; obtain ⟨xB, qB, rfl⟩ := own_slice hB2; have hXB := (hX.alloc (.cells #[.int .i64 u, .int .i64 (ix : Int)] 87)).grown hg2 HNeq.out; have kK : wB.cell? ⟨e8, 0, none⟩ = some (.int .i64 u) ∧ wB.cell? ⟨e8, 1, none⟩ = some (.int .i64 (y : Int)) := ⟨hXB.cell 0, hXB.cell 1⟩)
          | fail)
      all_goals
        have HNn : Hid (NbAt wB w00.heap.size nb M s3 (ordE L (es.take (j + 1)))) := Lib.hid (by
          rw [HNx.out]
          exact (hN3.alloc _).grown hg2 (hO9.alloc _) (by decide) (by decide))
        have HKn : Hid (Kp w wB (fun k => k = nb ∨ k = M ∨ some k = sv.ownBlock)) := Lib.hid (by
          have k1 := HK8.out.trans (Kp.of_nb3 h3) (fun k hk h9 => by
            rcases h9 with h9 | h9 | h9
            · exact .inr (.inl (by simpa using h9))
            · rcases hSj.out k h9.symm with h9 | h9
              · omega
              · exact .inr (.inr h9)
            · exact .inl (by simpa using h9))
          have k2 := k1.trans (Kp.of_below ((Below.refl _ wN).alloc (Nat.le_refl _) (.cells #[.int .i64 u, .int .i64 (ix : Int)] 87)) (fun _ => False)) (fun k _ h => h.elim)
          exact k2.trans (Kp.of_grown hg2) (fun k hk h9 => by
            have := own_ge hO9 k h9.symm
            omega))
        have HSn : Hid (∀ q, s3.ownBlock = some q → w.heap.size ≤ q ∨ some q = sv.ownBlock) := Lib.hid (fun q hq => by
          rcases hat3 with e | ⟨q', e, e2⟩
          · exact hSj.out q (e ▸ hq)
          · rw [e] at hq
            cases hq
            exact .inl (Nat.le_trans HZ8.out e2))
        have HOn : Hid (wB.ownsRow w.heap.size 87 2 (.slice xB (j + 1) qB) (j + 1) (ecells (redL L (es.take (j + 1))))) := Lib.hid (by
          rw [HRx.out, ecells_app]
          exact hB2)
        clear hB2 hN3 h3 hO9 hX kN hg2 hXB kK kD t0 t1
        go_wp2
        go_roundw
        case rel => exact ⟨j + 1, _, _, _, by go_num, by omega, rfl, HNn, HKn, HSn, HOn⟩
        case measure => simp [intOf]; omega
    · have hjn : n = j := by omega
      subst hjn
      have hte : es.take n = es := List.take_of_length_le (by rw [HEl.out]; exact Nat.le_refl _)
      rw [hte] at hNj hOj
      have HO : Hid (EdgeOwn w3 w.heap.size (.slice ea n ec) (redL L es)) := Lib.hid (by
        unfold EdgeOwn
        rw [redL_len, HEl.out]
        exact hOj.out)
      go_upto_region 8 with (go_at_call 93; refine (sortE_any HO.out (by rw [redL_len, HEl.out]; omega)).mono ?_; rintro e w9 ⟨rfl, hS, hg⟩)
      have HN9 := Lib.hid (hNj.out.grown hg hOj.out (by decide) (by decide))
      have HK9 : Hid (Kp w w9 (fun k => k = nb ∨ k = M ∨ some k = sv.ownBlock)) := Lib.hid (hKj.out.trans (Kp.of_grown hg) (fun k hk h9 => by
        have := own_ge hOj.out k h9.symm
        omega))
      have HS9 := Lib.hid hS
      clear hS hg
      go_wp2
      go_ret
      exact ⟨_, s2, rfl, HS9.out, HN9.out, HK9.out, hSj.out⟩
end Go.Proofs.YtgnbkepdbdgkdaaGreatDoor
