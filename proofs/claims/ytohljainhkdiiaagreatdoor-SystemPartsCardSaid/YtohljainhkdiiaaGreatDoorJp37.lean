/- Texts joined: Rep, SpPState. -/
import Derived.Test.YtohljainhkdiiaaGreatDoorJp15
import Derived.Test.YtohljainhkdiiaaGreatDoorJp16
import Derived.Test.YtohljainhkdiiaaGreatDoorJp36
import Derived.Laws.CopyOwn
import Derived.Laws.OwnMore
import Derived.Deep.RegionHeld3
import Derived.Lib.QuietBelow
/- slices.Repeat of one number. -/
namespace Go.Proofs.YtohljainhkdiiaaGreatDoor
open Go.RowKit Pl

theorem row_exact {w : World} {base g n : Nat} {e : TypeId} {xs : List Value} (h : w.ownsRow base e 1 (.slice (some ⟨g, 0, none⟩) n n) n xs) : w.heap[g]? = some (.cells xs.toArray e (0, 0)) := by
  rcases h.2 with ⟨h', _⟩ | ⟨g', cap, cur, h', hb, hg, hnc, hcm, hcs, ht⟩
  · simp at h'
  · simp only [Value.slice.injEq, Option.some.injEq, Addr.mk.injEq, and_true, true_and] at h'
    obtain ⟨rfl, rfl⟩ := h'
    rw [List.take_of_length_le (by rw [Array.length_toList, hcs]; exact Nat.le_refl _)] at ht
    rw [hg, ← ht]
theorem row_known {w : World} {base g n : Nat} {e : TypeId} {xs : List Value} (h : w.heap[g]? = some (.cells xs.toArray e (0, 0))) (hb : base ≤ g) (hx : xs.length = n) (hm : n ≤ maxLen) : w.ownsRow base e 1 (.slice (some ⟨g, 0, none⟩) n n) n xs :=
  ⟨by omega, .inr ⟨g, n, xs.toArray, rfl, hb, h, Nat.le_refl _, hm, by simp [hx], by rw [Nat.mul_one]; exact List.take_of_length_le (Nat.le_of_eq (by simpa using hx))⟩⟩
theorem cutLo_run (B n m : Nat) (h : m < n) (w' : World) : (Instr.slice 28 (.slice (some ⟨B, 0, none⟩) n n) (some (.int .i64 m)) none none).run Tryz.prog w' = .ok (.slice (some ⟨B, m, none⟩) (n - m) (n - m)) w' := by
  have h1 : (0 : Int) ≤ m := by omega
  have h2 : (m : Int) ≤ n := by omega
  have h3 : ¬ n = m := by omega
  have e : (⟨B, 0, none⟩ : Addr).add m = ⟨B, m, none⟩ := by rw [add_plainly, Nat.zero_add]
  go_simp
theorem cutHi_run (B n m : Nat) (h : m < n) (h0 : 0 < n) (w' : World) : (Instr.slice 28 (.slice (some ⟨B, 0, none⟩) n n) none (some (.int .i64 m)) none).run Tryz.prog w' = .ok (.slice (some ⟨B, 0, none⟩) m n) w' := by
  have h1 : (0 : Int) ≤ m := by omega
  have h2 : (m : Int) ≤ n := by omega
  have h3 : ¬ n = 0 := by omega
  have e : (⟨B, 0, none⟩ : Addr).add 0 = ⟨B, 0, none⟩ := by rw [add_plainly]
  go_simp
theorem splice_rep (x z : Value) (m n k : Nat) (h : m + k ≤ n) : splice (List.replicate m x ++ List.replicate (n - m) z) m (List.replicate k x) = List.replicate (m + k) x ++ List.replicate (n - (m + k)) z := by
  unfold splice
  rw [List.take_append_of_le_length (by simp), List.take_of_length_le (by simp), List.length_replicate, List.drop_append, List.drop_of_length_le (by simp), List.nil_append, List.length_replicate, List.drop_replicate, ← List.append_assoc, List.replicate_append_replicate]
  congr 2
  omega

set_option maxRecDepth 100000 in
set_option maxHeartbeats 1000000 in
theorem Repeat_any {w : World} {g c n : Nat} {x : Int} (hn : n ≤ 1000000) (hsrc : w.cell? ⟨g, 0, none⟩ = some (.int .i64 x)) :
    Calls Tryz.prog 112 #[.slice (some ⟨g, 0, none⟩) 1 c, .int .i64 n] w fun e w' => e = .returned (.slice (some ⟨w.heap.size, 0, none⟩) n n) ∧ w'.ownsRow w.heap.size 3 1 (.slice (some ⟨w.heap.size, 0, none⟩) n n) n ((List.replicate n x).map (Value.int .i64)) ∧ Below w.heap.size w w' := by
  obtain ⟨i1, hi1, hz10, hz11, hz12⟩ := info_parts infoNumS
  have hsz : (Tryz.prog.info? 3).map (·.size) = some 1 := by rw [hi1]; simp [hz11]
  have HS := Lib.hid hsrc
  have HM := Tryz.bits_Mul 1 n (by omega) (by omega) w
  rw [show 1 * n / 18446744073709551616 = 0 by omega, show 1 * n % 18446744073709551616 = n by omega] at HM
  have HM := Lib.hid HM
  have hw1 : IntKind.i64.wrap (n : Int) = n := IntWalk.i64_in _ (by omega)
  have hw2 : IntKind.u64.wrap (n : Int) = n := by rw [IntKind.wrap_u64]; omega
  have hn0 : ¬ (n : Int) < 0 := by omega
  have hbig : ¬ (9223372036854775807 : Int) < n := by omega
  clear hsrc
  go_enter Tryz.func112, Tryz.ntmps112
  go_wp2_with fail
  refine HM.out.mono ?_
  rintro e w' ⟨rfl, rfl⟩
  go_wp2_with (at_make; refine wpList_make_full _ rfl _ _ 28 rfl w'.heap.size 3 i1 (.int .i64 0) 1 Tryz.underlying28 hi1 hz10 hz11 .i64 .i64 n n n rfl rfl rfl rfl (by rw [hz12]; omega) (by unfold maxLen; omega) (Nat.le_refl _) ?_; intro w1 hrow hg1; refine Hid.out ?_)
  refine Lib.hid ?_
  have e0 : (madeCells (Value.int .i64 0).cells (n * 1)).toList = List.replicate n (Value.int .i64 0) := by
    refine List.ext_getElem (by simp [madeCells]) fun i h1 h2 => ?_
    simp [madeCells, Value.cells, Nat.mod_one]
  rw [e0] at hrow
  have hb1 : Below w'.heap.size w' w1 := (Below.refl _ w').grown hg1 (Nat.le_refl _) (fun k hk => by cases hk)
  have hR1 := row_exact hrow
  have hz1 : w'.heap.size < w1.heap.size := (hrow.lt _ rfl).2
  have HB1 := Lib.hid hb1
  have HR1 := Lib.hid hR1
  have k0 : w1.cell? ⟨g, 0, none⟩ = some (.int .i64 x) := (hb1.cell (lt_of_cell HS.out)).trans HS.out
  have HK0 := Lib.hid k0
  clear hb1 hR1 hrow hg1 k0 e0 HM
  by_cases h0 : n = 0
  · subst h0
    go_wp2_with (with_reducible refine wpList_copy_nothing rfl (.tmp 31) (.tmp 32) 28 28 rfl 3 Tryz.underlying28 hsz _ _ 0 0 1 c rfl rfl rfl ?_; refine Hid.out ?_)
    refine Lib.hid ?_
    go_wp2
    go_loopw [8] (fun m wr => m = .int .i64 0 ∧ wr = w1) (fun _ _ => 0)
    case atStart => exact ⟨rfl, rfl⟩
    case round =>
      obtain ⟨rfl, rfl⟩ := hrel
      go_wp2
      go_ret
      exact ⟨rfl, row_known HR1.out (Nat.le_refl _) rfl (by decide), HB1.out⟩
  · have hpos : 0 < n := by omega
    have hw1g : Hid (∀ j v, [Value.int .i64 x][j]? = some v → w1.cell? ((⟨g, 0, none⟩ : Addr).add j) = some v) := Lib.hid fun j v hv => by
      have hj : j < 1 := by simpa using (List.getElem?_eq_some_iff.1 hv).1
      obtain rfl : j = 0 := by omega
      rw [add_plainly, HK0.out, ← hv]; rfl
    have hmin : ([Value.int .i64 x] : List Value).length = Nat.min 1 n := (Nat.min_eq_left hpos).symm
    have hfit : 0 + ([Value.int .i64 x] : List Value).length ≤ (List.replicate n (Value.int .i64 0)).length := by simp; omega
    have hone : ∀ v ∈ [Value.int .i64 x], v.oneCell' = true := by simp [Value.oneCell']
    have hps : 0 < ([Value.int .i64 x] : List Value).length → some (⟨w'.heap.size, 0, none⟩ : Addr) = some ⟨w'.heap.size, 0, none⟩ ∧ ∃ ad, some (⟨g, 0, none⟩ : Addr) = some ad ∧ ∀ j v, [Value.int .i64 x][j]? = some v → w1.cell? (ad.add j) = some v := fun _ => ⟨rfl, _, rfl, hw1g.out⟩
    go_wp2_with (with_reducible refine wpList_copy_splice rfl (.tmp 31) (.tmp 32) 28 28 rfl 3 Tryz.underlying28 hsz _ _ n n 1 c rfl rfl w'.heap.size 0 (List.replicate n (Value.int .i64 0)) 3 HR1.out [.int .i64 x] hmin hps hfit hone w'.heap.size w' HB1.out (Nat.le_refl _) ?_; intro w2 hg2 hb2; refine Hid.out ?_)
    refine Lib.hid ?_
    have e1 : splice (List.replicate n (Value.int .i64 0)) 0 [.int .i64 x] = List.replicate 1 (Value.int .i64 x) ++ List.replicate (n - 1) (Value.int .i64 0) := by
      have := splice_rep (.int .i64 x) (.int .i64 0) 0 n 1 (by omega)
      simpa using this
    have HG2 : Hid (w2.heap[w'.heap.size]? = some (.cells (List.replicate 1 (Value.int .i64 x) ++ List.replicate (n - 1) (Value.int .i64 0)).toArray 3 (0, 0))) := Lib.hid (by rw [← e1]; exact hg2.out)
    clear hg2 e1
    have HB2 := Lib.hid hb2
    clear hb2
    have hmn : Nat.min 1 n = 1 := Nat.min_eq_left hpos
    have hdec : decide ((9223372036854775807 : Int) < n) = false := decide_eq_false (by omega)
    go_wp2
    simp only [hmn, hdec]
    go_loopw [8] (fun m wr => ∃ M : Nat, m = .int .i64 M ∧ 1 ≤ M ∧ M ≤ n ∧ Hid (wr.heap[w'.heap.size]? = some (.cells (List.replicate M (Value.int .i64 x) ++ List.replicate (n - M) (Value.int .i64 0)).toArray 3 (0, 0))) ∧ Hid (Below w'.heap.size w' wr)) (fun m _ => n - (intOf m).toNat)
    case atStart => exact ⟨1, rfl, by omega, by omega, HG2, HB2⟩
    case round =>
      obtain ⟨M, rfl, hM1, hM2, hg, hb⟩ := hrel
      by_cases hlt : M < n
      · have hc1 := fun V => cutLo_run w'.heap.size n M hlt V
        have hc2 := fun V => cutHi_run w'.heap.size n M hlt hpos V
        obtain ⟨K, hK⟩ : ∃ K, K = Nat.min M (n - M) := ⟨_, rfl⟩
        have hK1 : 0 < K := by rw [hK]; exact Nat.lt_min.2 ⟨by omega, by omega⟩
        have hK2 : K ≤ M := by rw [hK]; exact Nat.min_le_left _ _
        have hK3 : K ≤ n - M := by rw [hK]; exact Nat.min_le_right _ _
        have hsrc2 : Hid (∀ j v, (List.replicate K (Value.int .i64 x))[j]? = some v → wr.cell? ((⟨w'.heap.size, 0, none⟩ : Addr).add j) = some v) := Lib.hid fun j v hv => by
          have hj : j < K := by simpa using (List.getElem?_eq_some_iff.1 hv).1
          have h9 := cell_of_row wr w'.heap.size (0 + j) _ _ _ hg.out
          rw [add_plainly, h9, ← hv]
          simp [List.getElem?_append_left, hj, show j < M by omega]
        have HWR : Hid (IntKind.i64.wrap ((M : Int) + K) = (M : Int) + K) := Lib.hid (IntWalk.i64_in _ (by omega))
        have hmin2 : (List.replicate K (Value.int .i64 x)).length = Nat.min M (n - M) := by rw [List.length_replicate]; exact hK
        have hfit2 : M + (List.replicate K (Value.int .i64 x)).length ≤ (List.replicate M (Value.int .i64 x) ++ List.replicate (n - M) (Value.int .i64 0)).length := by simp; omega
        have hone2 : ∀ v ∈ List.replicate K (Value.int .i64 x), v.oneCell' = true := fun v hv => by rw [List.eq_of_mem_replicate hv]; rfl
        have HSR0 := hsrc2.out
        have HMN := Lib.hid hmin2
        have HFT := Lib.hid hfit2
        have HON := Lib.hid hone2
        obtain ⟨L, HL⟩ : ∃ L, Hid (List.replicate M (Value.int .i64 x) ++ List.replicate (n - M) (Value.int .i64 0) = L) := ⟨_, Lib.hid rfl⟩
        obtain ⟨C, HC⟩ : ∃ C, Hid (List.replicate K (Value.int .i64 x) = C) := ⟨_, Lib.hid rfl⟩
        rw [HL.out] at hg
        rw [HL.out, HC.out] at HFT
        rw [HC.out] at HMN HON HSR0
        have HGd : Hid (wr.drew.heap[w'.heap.size]? = some (.cells L.toArray 3 (0, 0))) := Lib.hid hg.out
        have HBd : Hid (Below w'.heap.size w' wr.drew) := Lib.hid hb.out.drew
        have HSR : Hid (∀ j v, C[j]? = some v → wr.drew.cell? ((⟨w'.heap.size, 0, none⟩ : Addr).add j) = some v) := Lib.hid HSR0
        clear HSR0
        have HCl : Hid (C.length = K) := Lib.hid (by rw [← HC.out, List.length_replicate])
        clear hK hmin2 hfit2 hone2 hsrc2
        go_wp2
        go_region_law (first | (refine step_copy_splice rfl (.tmp 41) (.tmp 44) 28 28 rfl 3 Tryz.underlying28 hsz (some ⟨w'.heap.size, M, none⟩) (some ⟨w'.heap.size, 0, none⟩) (n - M) (n - M) M n (by go_simp) (by go_simp) w'.heap.size M L 3 HGd.out C HMN.out (fun _ => ⟨rfl, _, rfl, HSR.out⟩) HFT.out HON.out w'.heap.size w' HBd.out (Nat.le_refl _) ?_; intro w4 hg4 hb4))
        rw [HCl.out]
        try simp only [goInt]
        rw [HWR.out]
        have HSp : Hid (splice L M C = List.replicate (M + K) (Value.int .i64 x) ++ List.replicate (n - (M + K)) (Value.int .i64 0)) := Lib.hid (by rw [← HL.out, ← HC.out]; exact splice_rep _ _ M n K (by omega))
        rw [HSp.out] at hg4
        have HB4 := Lib.hid hb4
        clear hb4
        go_simp
        go_wp2
        go_roundw
        case rel => exact ⟨.int .i64 ((M : Int) + K), _, _, _, _, _, _, _, _, _, _, _, _, _, ⟨M + K, by go_num, by omega, by omega, hg4, HB4⟩, rfl⟩
        case measure => simp [intOf]; omega
      · have e : M = n := by omega
        subst e
        have HF : Hid (wr.heap[w'.heap.size]? = some (.cells ((List.replicate M x).map (Value.int .i64)).toArray 3 (0, 0))) := Lib.hid (by
          rw [hg.out, Nat.sub_self, List.map_replicate]; simp)
        go_wp2
        go_ret
        exact ⟨rfl, row_known HF.out (Nat.le_refl _) (by simp) (by unfold maxLen; omega), hb.out⟩
end Go.Proofs.YtohljainhkdiiaaGreatDoor
/- spec.parseState. -/
namespace Go.Proofs.YtohljainhkdiiaaGreatDoor
open Go.RowKit Pl

theorem foldR_next {acts : List ByteArray} {r : List (List UInt8)} {x : Nat} {q : Rd} (h : foldR acts (some (rd0 acts)) (r.take x) = some q) (hx : x < r.length) : foldR acts (some (rd0 acts)) (r.take (x + 1)) = stepR acts q (r.getD x []) := by
  rw [take_next r x [] hx, foldR_app, h]
  rfl
theorem foldR_stop {acts : List ByteArray} {r : List (List UInt8)} {x : Nat} (h : foldR acts (some (rd0 acts)) (r.take x) = none) : steO acts r = none := by
  unfold steO
  rw [← List.take_append_drop x r, foldR_app, h, foldR_none]
  rfl
theorem fits_small {l : List Int} (h : ∀ x ∈ l, -1 ≤ x ∧ x ≤ 9223372036854775807) (hl : l.length ≤ 17592186044416) : Fits l := ⟨hl, fun j hj => by
  have := h (l.getD j 0) (by rw [List.getD_eq_getElem?_getD, List.getElem?_eq_getElem hj]; exact List.getElem_mem hj)
  omega⟩

set_option maxRecDepth 100000 in
set_option maxHeartbeats 8000000 in
theorem spParseState_any {w : World} {a : Option Addr} {n c : Nat} {acts : List ByteArray} {a2 : Option Addr} {N c2 : Nat} {r : List (List UInt8)} (E : Env w) (A : StrArg w a n c acts) (B : StrArg w a2 N c2 (r.map mk)) (hact : actsB acts = true) (hr : r.length ≤ 1000000) (hsz : ∀ x ∈ r, x.length ≤ 1000000) :
    Calls Tryz.prog 81 #[.slice a n c, .slice a2 N c2] w fun e w' => Below w.heap.size w w' ∧
      ((steO acts r = none ∧ ∃ pa pn pc qa qn qc, e = .returned (.tuple #[.agg #[.slice pa pn pc, .slice qa qn qc], .bool false])) ∨
        ∃ t p q, steO acts r = some t ∧ e = .returned (.tuple #[.agg #[p, q], .bool true]) ∧ NumO w' w.heap.size p t.1 ∧ NumO w' w.heap.size q t.2 ∧ Fits t.1 ∧ Fits t.2) := by
  have HE := Lib.hid E
  have HA := Lib.hid A
  have HBs := Lib.hid B
  have HACT := Lib.hid hact
  have HSz := Lib.hid hsz
  have HR2 : Hid (N = r.length) := Lib.hid (by have := B.len; rwa [List.length_map] at this)
  have h8 : n ≤ 8 := by have := ((actsB_iff acts).1 hact).1; have := A.len; omega
  have HNl : Hid (acts.length = n) := Lib.hid A.len.symm
  have hN2 : N ≤ 1000000 := by have := HR2.out; omega
  -- the row of one number, and what Repeat makes of it
  have hb0 := ((Below.refl w.heap.size w).alloc (Nat.le_refl _) (.cells #[.slice none 0 0, .slice none 0 0] 87)).alloc (by simp) (.cells #[.int .i64 (-1)] 3)
  have hc0 : ((w.alloc (.cells #[.slice none 0 0, .slice none 0 0] 87)).alloc (.cells #[.int .i64 (-1)] 3)).cell? ⟨w.heap.size + 1, 0, none⟩ = some (.int .i64 (-1)) := by
    have := (Whole.new (w.alloc (.cells #[.slice none 0 0, .slice none 0 0] 87)) 3 #[.int .i64 (-1)]).cell 0
    rw [World.size_alloc] at this
    exact this
  have hw0 := (Whole.new w 87 #[.slice none 0 0, .slice none 0 0]).alloc (.cells #[.int .i64 (-1)] 3)
  have HRep := Repeat_any (c := 1) (n := n) (by omega) hc0
  obtain ⟨w1, HW1⟩ : ∃ z, Hid ((w.alloc (.cells #[.slice none 0 0, .slice none 0 0] 87)).alloc (.cells #[.int .i64 (-1)] 3) = z) := ⟨_, Lib.hid rfl⟩
  have hz1 : w1.heap.size = w.heap.size + 2 := by rw [← HW1.out]; simp
  rw [HW1.out] at hb0 hw0 HRep
  have HRep := Lib.hid HRep
  have HB0 := Lib.hid hb0
  have HWr0 := Lib.hid hw0
  have HZ1 := Lib.hid hz1
  clear E A B hact hsz hr hb0 hc0 hw0 hz1
  go_enter Tryz.func81, Tryz.ntmps81
  go_wp2_with fail
  rw [HW1.out]
  refine HRep.out.mono ?_
  rintro e w2 ⟨rfl, hrow, hb2⟩
  have HRow := Lib.hid hrow
  have hz2 : w1.heap.size < w2.heap.size := (hrow.lt _ rfl).2
  have HB2 := Lib.hid (HB0.out.trans (hb2.mono HB0.out.size))
  have HWr2 := Lib.hid (HWr0.out.below hb2 HWr0.out.lt)
  clear hrow hb2
  obtain ⟨nb, HNB⟩ : ∃ z, Hid (w1.heap.size = z) := ⟨_, Lib.hid rfl⟩
  rw [HNB.out] at HRow hz2
  rw [HNB.out]
  have hnb : w.heap.size < nb := by rw [← HNB.out, HZ1.out]; omega
  have hbox := Whole.new w2 187 #[.slice a n c, .int .i64 0, .int .i64 (-1), .slice none 0 0, .slice (some ⟨nb, 0, none⟩) n n]
  have hb3 := (Below.refl w2.heap.size w2).alloc (Nat.le_refl _) (.cells #[.slice a n c, .int .i64 0, .int .i64 (-1), .slice none 0 0, .slice (some ⟨nb, 0, none⟩) n n] 187)
  obtain ⟨w3, HW3⟩ : ∃ z, Hid (w2.alloc (.cells #[.slice a n c, .int .i64 0, .int .i64 (-1), .slice none 0 0, .slice (some ⟨nb, 0, none⟩) n n] 187) = z) := ⟨_, Lib.hid rfl⟩
  rw [HW3.out] at hbox hb3
  have hz3 : w3.heap.size = w2.heap.size + 1 := by rw [← HW3.out]; simp
  have HRd := Lib.hid (readers_any w3)
  rw [hz3] at HRd
  have HBx := Lib.hid hbox
  have HB3 := Lib.hid hb3
  have HZ3 := Lib.hid hz3
  clear hbox hb3 hz3
  go_wp2_with fail
  rw [HW3.out]
  refine HRd.out.mono ?_
  rintro e w4 ⟨rfl, htab, hb4⟩
  have hb24 : Below w2.heap.size w2 w4 := HB3.out.trans (hb4.mono (by have := HZ3.out; omega))
  have hb04 := HB2.out.trans (hb24.mono HB2.out.size)
  have HAt : Hid (RdAt w4 w.heap.size w2.heap.size nb n a c (rd0 acts) (.slice none 0 0)) := Lib.hid (by
    refine ⟨HBx.out.below hb4 (by have := HZ3.out; omega), World.ownsRow_nil _ _ _ _, ?_, by omega, htab⟩
    have h1 := own_up' HRow.out hb24
    have h2 : (rd0 acts).next = List.replicate n (-1) := by rw [← HNl.out]; rfl
    rw [h2]
    exact own_low h1 (by omega))
  have HOk : Hid (OkR n (rd0 acts)) := Lib.hid ⟨by show (0 : Nat) ≤ 2; omega, fun e => (by cases e), by rw [← HNl.out]; simp [rd0], fun x hx => (by simp [rd0] at hx), fun x hx => by
    have := List.eq_of_mem_replicate hx
    omega⟩
  have HRes : Hid (Whole w4 w.heap.size 87 #[.slice none 0 0, .slice none 0 0]) := Lib.hid (HWr2.out.below hb24 (by have := HWr2.out.lt; omega))
  have HB4 := Lib.hid hb04
  clear htab hb4 hb24 hb04
  go_wp2
  go_loopw [10, 23] (fun _ i wr => ∃ (x : Nat) (q : Rd) (va : Value), i = .int .i64 x ∧ x ≤ N ∧ Hid (RdAt wr w.heap.size w2.heap.size nb n a c q va) ∧ Hid (OkR n q ∧ q.acc.length ≤ x ∧ foldR acts (some (rd0 acts)) (r.take x) = some q) ∧ Hid (Whole wr w.heap.size 87 #[.slice none 0 0, .slice none 0 0]) ∧ Below w.heap.size w wr) (fun _ i _ => N - (intOf i).toNat)
  case atStart => exact ⟨0, rd0 acts, _, rfl, Nat.zero_le _, HAt, Lib.hid ⟨HOk.out, Nat.zero_le _, by simp [foldR]⟩, HRes, HB4.out⟩
  case round =>
    obtain ⟨x, q, va, rfl, hx, hat, hq, hres, hb⟩ := hrel
    have HB := Lib.hid hb
    have hzr := hb.size
    have k1 := hat.out.cell.2.1
    have hRl := hat.out.box.lt
    clear hb
    by_cases hlt : x < N
    · obtain ⟨xw, HXw⟩ : ∃ z, Hid (r.getD x [] = z) := ⟨_, Lib.hid rfl⟩
      obtain ⟨bw, ow, rfl, c1⟩ := (HBs.out.below HB.out).cells x (by rw [List.length_map]; have := HR2.out; omega)
      have hgx : r[x]? = some xw := by
        rw [← HXw.out, List.getD_eq_getElem?_getD, List.getElem?_eq_getElem (by have := HR2.out; omega)]; rfl
      rw [List.getD_eq_getElem?_getD, List.getElem?_map, hgx] at c1
      change wr.cell? _ = some (.string (mk xw)) at c1
      obtain ⟨X, HX⟩ : ∃ z, Hid (mk xw = z) := ⟨_, Lib.hid rfl⟩
      rw [HX.out] at c1
      have hXd : X.data.toList = xw := by rw [← HX.out, mk_data]
      have hXs : X.size ≤ 1000000 := by rw [← HX.out, mk_size']; exact HSz.out _ (List.mem_of_getElem? hgx)
      have hnx := foldR_next hq.out.2.2 (by have := HR2.out; omega)
      rw [HXw.out, ← hXd] at hnx
      have HNx := Lib.hid hnx
      -- what the table holds there
      obtain ⟨f, hent, hlook, hcall⟩ : ∃ f, (∀ args w, (callFunc f args).run Tryz.prog w = .ok (.enter f args) w) ∧ (∀ os : Nat, (Instr.lookup 188 (.map (some (w2.heap.size + 1))) (.int .i64 q.part) false).run Tryz.prog wr = .ok (.func (.func f) #[] #[]) wr) ∧
          Calls Tryz.prog f #[.pointer (some ⟨w2.heap.size, 0, none⟩), .string X] wr fun e W' => Below w.heap.size w W' ∧ Low w2.heap.size nb wr W' ∧ ((stepR acts q X.data.toList = none ∧ e = .returned (.bool false)) ∨
            ∃ r' va', stepR acts q X.data.toList = some r' ∧ e = .returned (.bool true) ∧ RdAt W' w.heap.size w2.heap.size nb n a c r' va') := by
        have hl := look_rd hat.out.tab
        rcases (show q.part = 0 ∨ q.part = 1 ∨ q.part = 2 by have := hq.out.1.1; omega) with e | e | e
        · rw [e]
          exact ⟨145, enters_of Tryz.func145 (by kernel_rfl) rfl, fun _ => hl.1, readSet_any HE.out HA.out HACT.out HB.out hat.out e (by have := hq.out.2.1; omega) X (by omega)⟩
        · rw [e]
          exact ⟨146, enters_of Tryz.func146 (by kernel_rfl) rfl, fun _ => hl.2.1, readAction_any HE.out HA.out HACT.out HB.out hat.out e X⟩
        · rw [e]
          exact ⟨147, enters_of Tryz.func147 (by kernel_rfl) rfl, fun _ => hl.2.2, readTarget_any HE.out h8 HB.out hat.out e (hq.out.1.2.1 e) hq.out.1.2.2.1 X hXs⟩
      have hlk := hlook 0
      have HC := Lib.hid hcall
      clear hgx hnx hlook hcall hXd
      go_wp2_with fail
      refine HC.out.mono ?_
      rintro e w5 ⟨hb5, hlow, hcase⟩
      have HB5 := Lib.hid hb5
      have hres5 : Whole w5 w.heap.size 87 #[.slice none 0 0, .slice none 0 0] := (hlow _ (by omega) (by omega)).trans hres.out
      have HRes5 := Lib.hid hres5
      have r0 := hres5.cell 0
      have r1 := hres5.cell 1
      have f0 := hres5.frozen 0
      have f1 := hres5.frozen 1
      have hz5 := hres5.lt
      simp only [List.getElem?_toArray, List.getElem?_cons_succ, List.getElem?_cons_zero] at r0 r1
      clear hb5 hlow hres5
      rcases hcase with ⟨hno, rfl⟩ | ⟨q', va', hyes, rfl, hat'⟩
      · have HN : Hid (steO acts r = none) := Lib.hid (foldR_stop (x := x + 1) (by rw [HNx.out]; exact hno))
        have g0 := (HRes5.out.set 0 (.slice none 0 0)).cell 0
        have g1 := ((HRes5.out.set 0 (.slice none 0 0)).set 1 (.slice none 0 0)).cell 1
        simp only [List.setIfInBounds_toArray, List.set_cons_zero, List.set_cons_succ, List.getElem?_toArray, List.getElem?_cons_succ, List.getElem?_cons_zero] at g0 g1
        have HBe := Lib.hid ((HB5.out.setCell (p := ⟨w.heap.size, 0, none⟩) (Nat.le_refl _) (.slice none 0 0)).setCell (p := ⟨w.heap.size, 1, none⟩) (Nat.le_refl _) (.slice none 0 0))
        clear hno
        go_wp2
        exact bodyPost_ret (v := .tuple #[.agg #[.slice none 0 0, .slice none 0 0], .bool false]) (by simp [results, Tryz.results81, go_sem, g0, g1]) rfl ⟨HBe.out, .inl ⟨HN.out, _, _, _, _, _, _, rfl⟩⟩
      · have HAt' := Lib.hid hat'
        have hst : OkR n q' ∧ q'.acc.length ≤ q.acc.length + 1 := by rw [← HNl.out]; exact OkR.step HACT.out (by rw [HNl.out]; exact hq.out.1) hyes
        have HQ' : Hid (OkR n q' ∧ q'.acc.length ≤ x + 1 ∧ foldR acts (some (rd0 acts)) (r.take (x + 1)) = some q') := Lib.hid ⟨hst.1, by have := hq.out.2.1; omega, by rw [HNx.out]; exact hyes⟩
        clear hst hyes hat' r0 r1 f0 f1
        go_wp2
        go_roundw
        case rel => exact ⟨x + 1, q', va', by go_num, by omega, HAt', HQ', HRes5, HB5.out⟩
        case measure => simp [intOf]; omega
    · have HQe : Hid (steO acts r = rdO (some q)) := Lib.hid (by
        have h9 := hq.out.2.2
        rw [List.take_of_length_le (by have := HR2.out; omega)] at h9
        unfold steO
        rw [h9])
      obtain ⟨va1, vc1, rfl⟩ := own_slice' hat.out.acc
      obtain ⟨k0, k1', k2, k3, k4⟩ := hat.out.cell
      clear k1'
      have r0 := hres.out.cell 0
      have r1 := hres.out.cell 1
      have f0 := hres.out.frozen 0
      have f1 := hres.out.frozen 1
      have hz5 := hres.out.lt
      simp only [List.getElem?_toArray, List.getElem?_cons_succ, List.getElem?_cons_zero] at r0 r1
      obtain ⟨L, hL⟩ : ∃ z, q.acc.length = z := ⟨_, rfl⟩
      rw [hL] at k3
      rw [hL] at hat
      have g0 := (hres.out.set 0 (.slice va1 L vc1)).cell 0
      have g1 := ((hres.out.set 0 (.slice va1 L vc1)).set 1 (.slice (some ⟨nb, 0, none⟩) n n)).cell 1
      simp only [List.setIfInBounds_toArray, List.set_cons_zero, List.set_cons_succ, List.getElem?_toArray, List.getElem?_cons_succ, List.getElem?_cons_zero] at g0 g1
      have HBe := Lib.hid ((HB.out.setCell (p := ⟨w.heap.size, 0, none⟩) (Nat.le_refl _) (.slice va1 L vc1)).setCell (p := ⟨w.heap.size, 1, none⟩) (Nat.le_refl _) (.slice (some ⟨nb, 0, none⟩) n n)).drew
      have hq2 := hq.out.1
      have HF1 : Hid (Fits q.acc) := Lib.hid (fits_small (fun z hz => by have := hq2.2.2.2.1 z hz; omega) (by have := hq.out.2.1; omega))
      have HF2 : Hid (Fits q.next) := Lib.hid (fits_small hq2.2.2.2.2 (by rw [hq2.2.2.1]; omega))
      have hgr : wr.grownBy (((wr.setCell ⟨w.heap.size, 0, none⟩ (.slice va1 L vc1)).setCell ⟨w.heap.size, 1, none⟩ (.slice (some ⟨nb, 0, none⟩) n n)).drew) (some w.heap.size) := by
        have h1 := (grown_self wr ⟨w.heap.size, 0, none⟩ (.slice va1 L vc1)).trans (grown_self (wr.setCell ⟨w.heap.size, 0, none⟩ (.slice va1 L vc1)) ⟨w.heap.size, 1, none⟩ (.slice (some ⟨nb, 0, none⟩) n n))
        exact ⟨h1.os, h1.tape, h1.output, h1.size, h1.block⟩
      have HP : Hid (NumO (((wr.setCell ⟨w.heap.size, 0, none⟩ (.slice va1 L vc1)).setCell ⟨w.heap.size, 1, none⟩ (.slice (some ⟨nb, 0, none⟩) n n)).drew) w.heap.size (.slice va1 L vc1) q.acc) := Lib.hid (by
        have h1 := hat.out.acc
        exact own_low (h1.kept hgr (.inr fun e => by have := own_ge h1 _ e; omega)) (by omega))
      have HQ : Hid (NumO (((wr.setCell ⟨w.heap.size, 0, none⟩ (.slice va1 L vc1)).setCell ⟨w.heap.size, 1, none⟩ (.slice (some ⟨nb, 0, none⟩) n n)).drew) w.heap.size (.slice (some ⟨nb, 0, none⟩) n n) q.next) := Lib.hid (by
        have h1 := hat.out.next
        have h2 := h1.kept hgr (.inr fun e => by simp only [Value.ownBlock, Option.some.injEq] at e; omega)
        unfold NumO
        rw [hq2.2.2.1]
        exact h2)
      have hR0 : w2.heap.size ≠ w.heap.size := by omega
      clear hgr hq2
      obtain ⟨pt, HPt⟩ : ∃ z : Nat, Hid (q.part = z) := ⟨_, Lib.hid rfl⟩
      rw [HPt.out] at k1
      by_cases hp1 : pt = 1
      · subst hp1
        have HT : Hid (steO acts r = some (q.acc, q.next)) := Lib.hid (by rw [HQe.out]; show (if q.part = 1 then some (q.acc, q.next) else none) = _; rw [HPt.out]; rfl)
        go_wp2
        go_region
        go_wp2
        exact bodyPost_ret (v := .tuple #[.agg #[.slice va1 L vc1, .slice (some ⟨nb, 0, none⟩) n n], .bool true]) (by simp [results, Tryz.results81, go_sem, g0, g1]) rfl ⟨HBe.out, .inr ⟨(q.acc, q.next), _, _, HT.out, rfl, HP.out, HQ.out, HF1.out, HF2.out⟩⟩
      · have hpq : ((pt : Int) == 1) = false := by rw [beq_eq_false_iff_ne]; omega
        have HT : Hid (steO acts r = none) := Lib.hid (by rw [HQe.out]; show (if q.part = 1 then some (q.acc, q.next) else none) = _; rw [HPt.out, if_neg hp1])
        go_wp2
        go_region
        go_wp2
        exact bodyPost_ret (v := .tuple #[.agg #[.slice va1 L vc1, .slice (some ⟨nb, 0, none⟩) n n], .bool false]) (by simp [results, Tryz.results81, go_sem, g0, g1]) rfl ⟨HBe.out, .inl ⟨HT.out, _, _, _, _, _, _, rfl⟩⟩
end Go.Proofs.YtohljainhkdiiaaGreatDoor
