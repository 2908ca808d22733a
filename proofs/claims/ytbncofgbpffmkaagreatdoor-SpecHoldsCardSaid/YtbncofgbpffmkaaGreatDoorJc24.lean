/- Texts joined: Split. -/
import Derived.Test.YtbncofgbpffmkaaGreatDoorJc08
import Derived.Test.YtbncofgbpffmkaaGreatDoorJc13
import Derived.Test.YtbncofgbpffmkaaGreatDoorJc11
import Derived.Sort.LoopGhostIn
import Derived.Lib.IndexBytes
/- strings.SplitSeq at a comma, as an iterator. -/
namespace Go.Proofs.YtbncofgbpffmkaaGreatDoor
open Go.RowKit Go.Shelf Pl

def partsB (r : ByteArray) : List ByteArray := (parts r.data.toList).map mk
theorem mk_extract (r : ByteArray) (i j : Nat) (l : List UInt8) (h : (r.extract i j).data.toList = l) : mk l = r.extract i j := by
  rw [← h]; exact mk_of _
theorem partsB_none {r : ByteArray} (h : Lib.indexByte r.data.toList 44 < 0) : partsB r = [r] := by
  unfold partsB
  rw [parts_none _ h, List.map_singleton, mk_of]
theorem partsB_some {r : ByteArray} {i : Nat} (h : Lib.indexByte r.data.toList 44 = i) : i < r.size ∧ partsB r = r.extract 0 i :: partsB (r.extract (i + 1) r.size) := by
  obtain ⟨h1, h2⟩ := parts_some _ _ h
  refine ⟨by rw [Lib.size_eq]; exact h1, ?_⟩
  unfold partsB
  rw [h2, List.map_cons]
  congr 1
  · refine mk_extract _ _ _ _ ?_
    simp
  · have e : (r.extract (i + 1) r.size).data.toList = r.data.toList.drop (i + 1) := Lib.extract_to_end r (i + 1)
    rw [e]

attribute [local go_sem] Oper.semAt_some

set_option maxRecDepth 100000 in
set_option maxHeartbeats 2000000 in
/-- the iterator that SplitSeq(s0, ",") makes: its three captured cells at C0 (the comma), C1 (what is left), C2 (0) -/
theorem split_iter (B C0 C1 C2 : Nat) (s0 : ByteArray) (hs0 : s0.size ≤ 9223372036854775807) (I : ByteArray → List ByteArray → World → Prop) (Ix : Code → List ByteArray → World → Prop)
    (h0 : ∀ r pre V, I r pre V → V.cell? ⟨C0, 0, none⟩ = some (.string ⟨#[44]⟩)) (h1 : ∀ r pre V, I r pre V → V.cell? ⟨C1, 0, none⟩ = some (.string r)) (h1f : ∀ r pre V, I r pre V → V.frozen? ⟨C1, 0, none⟩ = false) (h2 : ∀ r pre V, I r pre V → V.cell? ⟨C2, 0, none⟩ = some (.int .i64 0))
    (hst : ∀ r r' pre V, I r pre V → I r' pre (V.setCell ⟨C1, 0, none⟩ (.string r'))) :
    IterG Tryz.prog 150 #[.pointer (some ⟨C0, 0, none⟩), .pointer (some ⟨C1, 0, none⟩), .pointer (some ⟨C2, 0, none⟩)] (fun p : ByteArray => #[.string p]) (fun pre x => pre ++ [x] <+: partsB s0) (fun xs => xs = partsB s0) B I Ix s0 := by
  intro l Bk Bx W hBk _ hY hI0 hb0
  have k0 := h0 _ _ _ hI0
  have H0 := Lib.hid h0
  have H1 := Lib.hid h1
  have H1f := Lib.hid h1f
  have H2 := Lib.hid h2
  have HS := Lib.hid hst
  have HB := Lib.hid hBk
  have HY := Lib.hid hY
  clear h0 h1 h2 h1f hst hBk hY
  refine callsIn_of_wp Tryz.func150 rfl trivial ?_ rfl
  simp only [Tryz.ntmps150, List.size_toArray, List.length_cons, List.length_nil, Nat.reduceAdd, Nat.reduceSub, Array.replicate_succ, Array.replicate_zero, List.push_toArray, List.append_toArray, List.nil_append, List.cons_append]
  gi_wp2
  gi_loopg [7, 8] s0.size (fun k _ _ V => ∃ (pre : List ByteArray) (r : ByteArray), r.size ≤ k ∧ r.size ≤ 9223372036854775807 ∧ Hid (partsB s0 = pre ++ partsB r) ∧ Hid (I r pre V ∧ Bk V))
  case atStart => exact ⟨[], s0, Nat.le_refl _, hs0, Lib.hid rfl, Lib.hid ⟨hI0, hb0⟩⟩
  case round =>
    obtain ⟨pre, r, hk, hr, hm, hI⟩ := hrel
    have c0 := H0.out _ _ _ hI.out.1
    have c1 := H1.out _ _ _ hI.out.1
    have c2 := H2.out _ _ _ hI.out.1
    have HX := Lib.hid (Tryz.strings_Index_one r 44 wr)
    have hg := Lib.indexByte_ge r.data.toList 44
    by_cases hneg : Lib.indexByte r.data.toList 44 < 0
    · have hp := partsB_none hneg
      obtain ⟨i, hi⟩ : ∃ i, Lib.indexByte r.data.toList 44 = i := ⟨_, rfl⟩
      rw [hi] at HX hneg
      have HM : Hid (partsB s0 = pre ++ [r]) := Lib.hid (by rw [hm.out, hp])
      clear hp hi hg
      obtain ⟨fn, tmps, assign, body, hy, hR⟩ := HY.out r pre r wr hI.out.1 hI.out.2 ⟨[], by rw [HM.out, List.append_nil]⟩
      gi_wp2_with (refine ⟨trivial, ?_⟩; gi_at_call 112; refine (callsIn_wide.2 HX.out).mono ?_; rintro e w' ⟨rfl, rfl⟩)
      refine hR.mono ?_
      rintro e W3 (⟨rfl, hI3, hb3⟩ | ⟨rfl, c, hx3, hb3⟩)
      · gi_wp2
        go_end0
        exact ⟨⟨_, rfl⟩, .inl ⟨_, r, HM.out.symm, hI3, hb3⟩⟩
      · gi_wp2
        go_end0
        exact ⟨⟨_, rfl⟩, .inr ⟨_, c, hx3, hb3⟩⟩
    · obtain ⟨i, hi⟩ := Int.eq_ofNat_of_zero_le (show 0 ≤ Lib.indexByte r.data.toList 44 by omega)
      obtain ⟨hlt, hp⟩ := partsB_some hi
      rw [hi] at HX
      have HM : Hid (partsB s0 = (pre ++ [r.extract 0 i]) ++ partsB (r.extract (i + 1) r.size)) := Lib.hid (by rw [hm.out, hp]; simp)
      have HZ : Hid ((r.extract (i + 1) r.size).size = r.size - (i + 1)) := Lib.hid (by simp)
      clear hp hi hneg hg
      obtain ⟨fn, tmps, assign, body, hy, hR⟩ := HY.out r pre (r.extract 0 i) wr hI.out.1 hI.out.2 ⟨_, HM.out.symm⟩
      gi_wp2_with (refine ⟨trivial, ?_⟩; gi_at_call 112; refine (callsIn_wide.2 HX.out).mono ?_; rintro e w' ⟨rfl, rfl⟩)
      refine hR.mono ?_
      rintro e W3 (⟨rfl, hI3, hb3⟩ | ⟨rfl, c, hx3, hb3⟩)
      · have d0 := H0.out _ _ _ hI3
        have d1 := H1.out _ _ _ hI3
        have d1f := H1f.out _ _ _ hI3
        gi_wp2
        gi_roundg (gk - 1)
        case rel => exact ⟨pre ++ [r.extract 0 i], r.extract (i + 1) r.size, by rw [HZ.out]; omega, by rw [HZ.out]; omega, HM, Lib.hid ⟨HS.out _ _ _ _ hI3, HB.out _ _ hb3 (Stays.setCell _ _ _ _)⟩⟩
        case measure => omega
      · gi_wp2
        refine bodyPost_ret (results_none rfl _ _ _) rfl ?_
        exact ⟨⟨_, rfl⟩, .inr ⟨_, c, hx3, hb3⟩⟩

theorem splitSeq_any (s : ByteArray) (w : World) :
    Calls Tryz.prog 143 #[.string s, .string ⟨#[44]⟩, .int .i64 0] w fun e w' => e = .returned (.func (.func 150) #[] #[.pointer (some ⟨w.heap.size + 1, 0, none⟩), .pointer (some ⟨w.heap.size, 0, none⟩), .pointer (some ⟨w.heap.size + 1 + 1, 0, none⟩)]) ∧
      ((w.alloc (.cells #[.string s] 9)).alloc (.cells #[.string ⟨#[44]⟩] 9)).alloc (.cells #[.int .i64 0] 3) = w' := by
  go_enter Tryz.func143, Tryz.ntmps143
  go_wp2
  go_ret
  exact ⟨rfl, rfl⟩
theorem SplitSeq_any (s : ByteArray) (w : World) :
    Calls Tryz.prog 136 #[.string s, .string ⟨#[44]⟩] w fun e w' => e = .returned (.func (.func 150) #[] #[.pointer (some ⟨w.heap.size + 1, 0, none⟩), .pointer (some ⟨w.heap.size, 0, none⟩), .pointer (some ⟨w.heap.size + 1 + 1, 0, none⟩)]) ∧
      ((w.alloc (.cells #[.string s] 9)).alloc (.cells #[.string ⟨#[44]⟩] 9)).alloc (.cells #[.int .i64 0] 3) = w' := by
  go_enter Tryz.func136, Tryz.ntmps136
  go_wp2_with fail
  refine (splitSeq_any s _).mono ?_
  rintro e w' ⟨rfl, rfl⟩
  go_wp2
  go_ret
  exact ⟨rfl, rfl⟩

/-- 'actions[nx:]' -/
theorem slice_run (a : Option Addr) (n c nx : Nat) (h : nx ≤ n) (w' : World) : (Instr.slice 22 (.slice a n c) (some (.int .i64 nx)) none none).run Tryz.prog w' = .ok (.slice (if c = nx then a else a.map fun x => x.add nx) (n - nx) (c - nx)) w' := by
  have h1 : (0 : Int) ≤ nx := by omega
  have h2 : (nx : Int) ≤ n := by omega
  go_simp
theorem slice_from (a : Option Addr) (n c nx : Nat) (ss : List ByteArray) (w : World) (hn : n = ss.length) (h : nx ≤ n) (hcap : n ≤ c) (hc : StrsIn w a ss) :
    ∃ a', (∀ w', (Instr.slice 22 (.slice a n c) (some (.int .i64 nx)) none none).run Tryz.prog w' = .ok (.slice a' (n - nx) (c - nx)) w') ∧ StrsIn w a' (ss.drop nx) := by
  refine ⟨_, slice_run a n c nx h, fun j hj => ?_⟩
  rw [List.length_drop] at hj
  obtain ⟨b, off, rfl, hcell⟩ := hc (nx + j) (by omega)
  have e : (ss.drop nx).getD j ByteArray.empty = ss.getD (nx + j) ByteArray.empty := by simp [List.getD]
  rw [e, if_neg (by omega)]
  by_cases hz : nx = 0
  · subst hz
    exact ⟨b, off, by simp [Addr.add], by simpa using hcell⟩
  · exact ⟨b, off + nx, by simp [Addr.add, hz], by rw [Nat.add_assoc]; exact hcell⟩
end Go.Proofs.YtbncofgbpffmkaaGreatDoor
