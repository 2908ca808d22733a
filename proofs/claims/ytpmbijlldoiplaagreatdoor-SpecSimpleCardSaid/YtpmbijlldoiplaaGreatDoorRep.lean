/- slices.Repeat of one number. -/
import Derived.Test.YtpmbijlldoiplaaGreatDoorSOwn
import Derived.Test.YtpmbijlldoiplaaGreatDoorSCopy
import Derived.Test.YtpmbijlldoiplaaGreatDoorShelfR
import Derived.Laws.CopyOwn
import Derived.Laws.OwnMore
namespace Go.Proofs.YtpmbijlldoiplaaGreatDoor
open Go.RowKit Pl

theorem row_exact {w : World} {base g n : Nat} {e : TypeId} {xs : List Value} (h : w.ownsRow base e 1 (.slice (some ⟨g, 0, none⟩) n n) n xs) : w.heap[g]? = some (.cells xs.toArray e (0, 0)) := by
  rcases h.2 with ⟨h', _⟩ | ⟨g', cap, cur, h', hb, hg, hnc, hcm, hcs, ht⟩
  · simp at h'
  · simp only [Value.slice.injEq, Option.some.injEq, Addr.mk.injEq, and_true, true_and] at h'
    obtain ⟨rfl, rfl⟩ := h'
    rw [List.take_of_length_le (by rw [Array.length_toList, hcs]; exact Nat.le_refl _)] at ht
    rw [hg, ← ht]
theorem row_known {w : World} {base g n : Nat} {e : TypeId} {xs : List Value} (h : w.heap[g]? = some (.cells xs.toArray e (0, 0))) (hb : base ≤ g) (hx : xs.length = n) (hm : n ≤ maxLen) : w.ownsRow base e 1 (.slice (some ⟨g, 0, none⟩) n n) n xs :=
  ⟨by omega, .inr ⟨g, n, xs.toArray, rfl, hb, h, Nat.le_refl _, hm, by simp [hx], by rw [Nat.mul_one]; exact List.take_of_length_le (Nat.le_of_eq (by simpa using hx))⟩⟩
theorem cutLo_run (B n m : Nat) (h : m < n) (w' : World) : (Instr.slice 28 (.slice (some ⟨B, 0, none⟩) n n) (some (.int .i64 m)) none none).run Tryz.prog w' = .ok (.slice (some ⟨B, m, none⟩) (n - m) (n - m)) w' := by
  have h1 : (0 : Int) ≤ m := by omega
  have h2 : (m : Int) ≤ n := by omega
  have h3 : ¬ n = m := by omega
  have e : (⟨B, 0, none⟩ : Addr).add m = ⟨B, m, none⟩ := by rw [add_plainly, Nat.zero_add]
  go_simp
theorem cutHi_run (B n m : Nat) (h : m < n) (h0 : 0 < n) (w' : World) : (Instr.slice 28 (.slice (some ⟨B, 0, none⟩) n n) none (some (.int .i64 m)) none).run Tryz.prog w' = .ok (.slice (some ⟨B, 0, none⟩) m n) w' := by
  have h1 : (0 : Int) ≤ m := by omega
  have h2 : (m : Int) ≤ n := by omega
  have h3 : ¬ n = 0 := by omega
  have e : (⟨B, 0, none⟩ : Addr).add 0 = ⟨B, 0, none⟩ := by rw [add_plainly]
  go_simp
theorem splice_rep (x z : Value) (m n k : Nat) (h : m + k ≤ n) : splice (List.replicate m x ++ List.replicate (n - m) z) m (List.replicate k x) = List.replicate (m + k) x ++ List.replicate (n - (m + k)) z := by
  unfold splice
  rw [List.take_append_of_le_length (by simp), List.take_of_length_le (by simp), List.length_replicate, List.drop_append, List.drop_of_length_le (by simp), List.nil_append, List.length_replicate, List.drop_replicate, ← List.append_assoc, List.replicate_append_replicate]
  congr 2
  omega

set_option maxRecDepth 100000 in
set_option maxHeartbeats 1000000 in
theorem Repeat_any {w : World} {g c n : Nat} {x : Int} (hn : n ≤ 1000000) (hsrc : w.cell? ⟨g, 0, none⟩ = some (.int .i64 x)) :
    Calls Tryz.prog 91 #[.slice (some ⟨g, 0, none⟩) 1 c, .int .i64 n] w fun e w' => e = .returned (.slice (some ⟨w.heap.size, 0, none⟩) n n) ∧ w'.ownsRow w.heap.size 3 1 (.slice (some ⟨w.heap.size, 0, none⟩) n n) n ((List.replicate n x).map (Value.int .i64)) ∧ Below w.heap.size w w' := by
  obtain ⟨i1, hi1, hz10, hz11, hz12⟩ := info_parts infoNumS
  have hsz : (Tryz.prog.info? 3).map (·.size) = some 1 := by rw [hi1]; simp [hz11]
  have HS := Lib.hid hsrc
  have HM := Tryz.bits_Mul 1 n (by omega) (by omega) w
  rw [show 1 * n / 18446744073709551616 = 0 by omega, show 1 * n % 18446744073709551616 = n by omega] at HM
  have HM := Lib.hid HM
  have hw1 : IntKind.i64.wrap (n : Int) = n := IntWalk.i64_in _ (by omega)
  have hw2 : IntKind.u64.wrap (n : Int) = n := by rw [IntKind.wrap_u64]; omega
  have hn0 : ¬ (n : Int) < 0 := by omega
  have hbig : ¬ (9223372036854775807 : Int) < n := by omega
  clear hsrc
  go_enter Tryz.func91, Tryz.ntmps91
  go_wp2_with fail
  refine HM.out.mono ?_
  rintro e w' ⟨rfl, rfl⟩
  go_wp2_with (at_make; refine wpList_make_full _ rfl _ _ 28 rfl w'.heap.size 3 i1 (.int .i64 0) 1 Tryz.underlying28 hi1 hz10 hz11 .i64 .i64 n n n rfl rfl rfl rfl (by rw [hz12]; omega) (by unfold maxLen; omega) (Nat.le_refl _) ?_; intro w1 hrow hg1; refine Hid.out ?_)
  refine Lib.hid ?_
  have e0 : (madeCells (Value.int .i64 0).cells (n * 1)).toList = List.replicate n (Value.int .i64 0) := by
    refine List.ext_getElem (by simp [madeCells]) fun i h1 h2 => ?_
    simp [madeCells, Value.cells, Nat.mod_one]
  rw [e0] at hrow
  have hb1 : Below w'.heap.size w' w1 := (Below.refl _ w').grown hg1 (Nat.le_refl _) (fun k hk => by cases hk)
  have hR1 := row_exact hrow
  have hz1 : w'.heap.size < w1.heap.size := (hrow.lt _ rfl).2
  have HB1 := Lib.hid hb1
  have HR1 := Lib.hid hR1
  have k0 : w1.cell? ⟨g, 0, none⟩ = some (.int .i64 x) := (hb1.cell (lt_of_cell HS.out)).trans HS.out
  have HK0 := Lib.hid k0
  clear hb1 hR1 hrow hg1 k0 e0 HM
  by_cases h0 : n = 0
  · subst h0
    go_wp2_with (with_reducible refine wpList_copy_nothing rfl (.tmp 31) (.tmp 32) 28 28 rfl 3 Tryz.underlying28 hsz _ _ 0 0 1 c rfl rfl rfl ?_; refine Hid.out ?_)
    refine Lib.hid ?_
    go_wp2
    go_loopw [8] (fun m wr => m = .int .i64 0 ∧ wr = w1) (fun _ _ => 0)
    case atStart => exact ⟨rfl, rfl⟩
    case round =>
      obtain ⟨rfl, rfl⟩ := hrel
      go_wp2
      go_ret
      exact ⟨rfl, row_known HR1.out (Nat.le_refl _) rfl (by decide), HB1.out⟩
  · have hpos : 0 < n := by omega
    have hw1g : Hid (∀ j v, [Value.int .i64 x][j]? = some v → w1.cell? ((⟨g, 0, none⟩ : Addr).add j) = some v) := Lib.hid fun j v hv => by
      have hj : j < 1 := by simpa using (List.getElem?_eq_some_iff.1 hv).1
      obtain rfl : j = 0 := by omega
      rw [add_plainly, HK0.out, ← hv]; rfl
    have hmin : ([Value.int .i64 x] : List Value).length = Nat.min 1 n := (Nat.min_eq_left hpos).symm
    have hfit : 0 + ([Value.int .i64 x] : List Value).length ≤ (List.replicate n (Value.int .i64 0)).length := by simp; omega
    have hone : ∀ v ∈ [Value.int .i64 x], v.oneCell' = true := by simp [Value.oneCell']
    have hps : 0 < ([Value.int .i64 x] : List Value).length → some (⟨w'.heap.size, 0, none⟩ : Addr) = some ⟨w'.heap.size, 0, none⟩ ∧ ∃ ad, some (⟨g, 0, none⟩ : Addr) = some ad ∧ ∀ j v, [Value.int .i64 x][j]? = some v → w1.cell? (ad.add j) = some v := fun _ => ⟨rfl, _, rfl, hw1g.out⟩
    go_wp2_with (with_reducible refine wpList_copy_splice rfl (.tmp 31) (.tmp 32) 28 28 rfl 3 Tryz.underlying28 hsz _ _ n n 1 c rfl rfl w'.heap.size 0 (List.replicate n (Value.int .i64 0)) 3 HR1.out [.int .i64 x] hmin hps hfit hone w'.heap.size w' HB1.out (Nat.le_refl _) ?_; intro w2 hg2 hb2; refine Hid.out ?_)
    refine Lib.hid ?_
    have e1 : splice (List.replicate n (Value.int .i64 0)) 0 [.int .i64 x] = List.replicate 1 (Value.int .i64 x) ++ List.replicate (n - 1) (Value.int .i64 0) := by
      have := splice_rep (.int .i64 x) (.int .i64 0) 0 n 1 (by omega)
      simpa using this
    have HG2 : Hid (w2.heap[w'.heap.size]? = some (.cells (List.replicate 1 (Value.int .i64 x) ++ List.replicate (n - 1) (Value.int .i64 0)).toArray 3 (0, 0))) := Lib.hid (by rw [← e1]; exact hg2.out)
    clear hg2 e1
    have HB2 := Lib.hid hb2
    clear hb2
    have hmn : Nat.min 1 n = 1 := Nat.min_eq_left hpos
    have hdec : decide ((9223372036854775807 : Int) < n) = false := decide_eq_false (by omega)
    go_wp2
    simp only [hmn, hdec]
    go_loopw [8] (fun m wr => ∃ M : Nat, m = .int .i64 M ∧ 1 ≤ M ∧ M ≤ n ∧ Hid (wr.heap[w'.heap.size]? = some (.cells (List.replicate M (Value.int .i64 x) ++ List.replicate (n - M) (Value.int .i64 0)).toArray 3 (0, 0))) ∧ Hid (Below w'.heap.size w' wr)) (fun m _ => n - (intOf m).toNat)
    case atStart => exact ⟨1, rfl, by omega, by omega, HG2, HB2⟩
    case round =>
      obtain ⟨M, rfl, hM1, hM2, hg, hb⟩ := hrel
      by_cases hlt : M < n
      · have hc1 := fun V => cutLo_run w'.heap.size n M hlt V
        have hc2 := fun V => cutHi_run w'.heap.size n M hlt hpos V
        obtain ⟨K, hK⟩ : ∃ K, K = Nat.min M (n - M) := ⟨_, rfl⟩
        have hK1 : 0 < K := by rw [hK]; exact Nat.lt_min.2 ⟨by omega, by omega⟩
        have hK2 : K ≤ M := by rw [hK]; exact Nat.min_le_left _ _
        have hK3 : K ≤ n - M := by rw [hK]; exact Nat.min_le_right _ _
        have hsrc2 : Hid (∀ j v, (List.replicate K (Value.int .i64 x))[j]? = some v → wr.cell? ((⟨w'.heap.size, 0, none⟩ : Addr).add j) = some v) := Lib.hid fun j v hv => by
          have hj : j < K := by simpa using (List.getElem?_eq_some_iff.1 hv).1
          have h9 := cell_of_row wr w'.heap.size (0 + j) _ _ _ hg.out
          rw [add_plainly, h9, ← hv]
          simp [List.getElem?_append_left, hj, show j < M by omega]
        have HWR : Hid (IntKind.i64.wrap ((M : Int) + K) = (M : Int) + K) := Lib.hid (IntWalk.i64_in _ (by omega))
        have hmin2 : (List.replicate K (Value.int .i64 x)).length = Nat.min M (n - M) := by rw [List.length_replicate]; exact hK
        have hfit2 : M + (List.replicate K (Value.int .i64 x)).length ≤ (List.replicate M (Value.int .i64 x) ++ List.replicate (n - M) (Value.int .i64 0)).length := by simp; omega
        have hone2 : ∀ v ∈ List.replicate K (Value.int .i64 x), v.oneCell' = true := fun v hv => by rw [List.eq_of_mem_replicate hv]; rfl
        have HSR0 := hsrc2.out
        have HMN := Lib.hid hmin2
        have HFT := Lib.hid hfit2
        have HON := Lib.hid hone2
        obtain ⟨L, HL⟩ : ∃ L, Hid (List.replicate M (Value.int .i64 x) ++ List.replicate (n - M) (Value.int .i64 0) = L) := ⟨_, Lib.hid rfl⟩
        obtain ⟨C, HC⟩ : ∃ C, Hid (List.replicate K (Value.int .i64 x) = C) := ⟨_, Lib.hid rfl⟩
        rw [HL.out] at hg
        rw [HL.out, HC.out] at HFT
        rw [HC.out] at HMN HON HSR0
        have HGd : Hid (wr.drew.heap[w'.heap.size]? = some (.cells L.toArray 3 (0, 0))) := Lib.hid hg.out
        have HBd : Hid (Below w'.heap.size w' wr.drew) := Lib.hid hb.out.drew
        have HSR : Hid (∀ j v, C[j]? = some v → wr.drew.cell? ((⟨w'.heap.size, 0, none⟩ : Addr).add j) = some v) := Lib.hid HSR0
        clear HSR0
        have HCl : Hid (C.length = K) := Lib.hid (by rw [← HC.out, List.length_replicate])
        clear hK hmin2 hfit2 hone2 hsrc2
        go_wp2
        go_region_law (first | (refine step_copy_splice rfl (.tmp 41) (.tmp 44) 28 28 rfl 3 Tryz.underlying28 hsz (some ⟨w'.heap.size, M, none⟩) (some ⟨w'.heap.size, 0, none⟩) (n - M) (n - M) M n (by go_simp) (by go_simp) w'.heap.size M L 3 HGd.out C HMN.out (fun _ => ⟨rfl, _, rfl, HSR.out⟩) HFT.out HON.out w'.heap.size w' HBd.out (Nat.le_refl _) ?_; intro w4 hg4 hb4))
        rw [HCl.out]
        try simp only [goInt]
        rw [HWR.out]
        have HSp : Hid (splice L M C = List.replicate (M + K) (Value.int .i64 x) ++ List.replicate (n - (M + K)) (Value.int .i64 0)) := Lib.hid (by rw [← HL.out, ← HC.out]; exact splice_rep _ _ M n K (by omega))
        rw [HSp.out] at hg4
        have HB4 := Lib.hid hb4
        clear hb4
        go_simp
        go_wp2
        go_roundw
        case rel => exact ⟨.int .i64 ((M : Int) + K), _, _, _, _, _, _, _, _, _, _, _, _, _, ⟨M + K, by go_num, by omega, by omega, hg4, HB4⟩, rfl⟩
        case measure => simp [intOf]; omega
      · have e : M = n := by omega
        subst e
        have HF : Hid (wr.heap[w'.heap.size]? = some (.cells ((List.replicate M x).map (Value.int .i64)).toArray 3 (0, 0))) := Lib.hid (by
          rw [hg.out, Nat.sub_self, List.map_replicate]; simp)
        go_wp2
        go_ret
        exact ⟨rfl, row_known HF.out (Nat.le_refl _) (by simp) (by unfold maxLen; omega), hb.out⟩
end Go.Proofs.YtpmbijlldoiplaaGreatDoor
