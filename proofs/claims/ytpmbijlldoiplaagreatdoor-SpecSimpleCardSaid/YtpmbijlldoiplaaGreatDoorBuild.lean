/- strings.Builder as the program uses it: WriteString. -/
import Derived.Test.YtpmbijlldoiplaaGreatDoorOwnKit
import Derived.Lib.Builder
import Derived.Lib.SlBytesConst
namespace Go.Proofs.YtpmbijlldoiplaaGreatDoor
open Go.RowKit Pl

theorem infoByte : (Tryz.prog.info? 5).map (fun i => (i.zero, i.size, i.bytes)) = some (some (.int .u8 0), 1, 1) := by kernel_rfl
theorem sizeBuilder : (Tryz.prog.info? 117).map (·.size) = some 2 := by kernel_rfl
theorem liesBuilder : liesAt Tryz.prog Tryz.prog.depth 117 (2 / Tryz.prog.cellsOf 117) 0 117 1 = true := by kernel_rfl
theorem own_slice' {W : World} {base : Nat} {e : TypeId} {size n : Nat} {v : Value} {xs : List Value} (h : W.ownsRow base e size v n xs) : ∃ a c, v = .slice a n c := by
  rcases h.2 with ⟨rfl, rfl⟩ | ⟨g, cap, cur, rfl, _⟩
  · exact ⟨none, 0, rfl⟩
  · exact ⟨_, cap, rfl⟩
theorem below_grown' {w w' : World} (hb : Below w.heap.size w w') : w.grownBy w' none := ⟨hb.os, hb.tape, hb.output, hb.size, fun k hk _ => hb.block k hk⟩
/-- whatever lies in another block, and is no row of bytes, stands -/
def Kept (b : Nat) (w w' : World) : Prop := ∀ g t cs, g ≠ b → t ≠ 5 → Whole w g t cs → Whole w' g t cs
abbrev Bld (B b : Nat) (l : List UInt8) (w : World) : Prop := Lib.IsBuilder 117 5 B b (Lib.byteCells l) w
set_option maxRecDepth 100000 in
set_option maxHeartbeats 1000000 in
theorem copyCheck_any (B b : Nat) (bs : List Value) (w : World) (h : Lib.IsBuilder 117 5 B b bs w) :
    Calls Tryz.prog 115 #[.pointer (some ⟨b, 0, none⟩)] w fun e w' => e = .returned (.tuple #[]) ∧ Lib.BuilderAt 117 5 B b (.pointer (some ⟨b, 0, none⟩)) bs w' ∧ Below B w w' ∧ Kept b w w' := by
  obtain ⟨j, hj, hj2⟩ : ∃ j, Tryz.prog.info? 117 = some j ∧ j.size ≠ 0 := by
    have := sizeBuilder
    cases e : Tryz.prog.info? 117 with
    | none => rw [e] at this; cases this
    | some j => rw [e] at this; simp at this; exact ⟨j, rfl, by omega⟩
  rcases h with h | h
  · have c0 := h.cell0
    have f0 := h.frozen0
    have k1 : (convert 115 217 (.pointer (some ⟨b, 0, none⟩))).run Tryz.prog w = .ok (.pointer (some ⟨b, 0, none⟩)) w := Lib.run_to_unsafe w ⟨b, 0, none⟩ Tryz.underlying115 Tryz.underlying217 hj hj2 h.shape (by simp)
    have k2 : (convert 217 115 (.pointer (some ⟨b, 0, none⟩))).run Tryz.prog w = .ok (.pointer (some ⟨b, 0, none⟩)) w := Lib.run_from_unsafe w ⟨b, 0, none⟩ Tryz.underlying217 Tryz.underlying115 hj h.shape liesBuilder
    have HU := Lib.hid (h.used (.pointer (some ⟨b, 0, none⟩)))
    have HB := Lib.hid h.1
    clear h
    go_enter Tryz.func115, Tryz.ntmps115
    go_wp2
    rw [run_callFunc_extern Tryz.func143 (by kernel_rfl) (by kernel_rfl) (by kernel_rfl) (e := Extern.AbiNoEscape.same) (by kernel_rfl), Lib.run_noEscape]
    simp only [Result.andThen]
    rw [Oper.upon_value]
    go_wp2
    refine bodyPost_end (results_none rfl _ _ _) (by rfl) ?_
    exact ⟨rfl, HU.out, (Below.refl B w).setCell HB.out _, fun g t cs hg _ hw => hw.far hg _⟩
  · have c0 := h.cell0
    have HU := Lib.hid h
    have kn := Lib.run_neq_ptr_same w ⟨b, 0, none⟩ Tryz.underlying115 hj
    clear h
    go_enter Tryz.func115, Tryz.ntmps115
    go_wp2
    go_end0
    exact ⟨rfl, HU.out, Below.refl B w, fun g t cs _ _ hw => hw⟩

theorem bytes_app (l l' : List UInt8) : Lib.byteCells (l ++ l') = Lib.byteCells l ++ Lib.byteCells l' := Lib.byteCells_append l l'
set_option maxRecDepth 100000 in
set_option maxHeartbeats 1000000 in
theorem write_any (B b : Nat) (l : List UInt8) (s : ByteArray) (w : World) (h : Bld B b l w) (hlen : l.length + s.size ≤ 140737488355328) (hBw : B ≤ w.heap.size) :
    Calls Tryz.prog 68 #[.pointer (some ⟨b, 0, none⟩), .string s] w fun e w' => e = .returned (.tuple #[.int .i64 s.size, .nilIface]) ∧ Bld B b (l ++ s.data.toList) w' ∧ Below B w w' ∧ Kept b w w' := by
  obtain ⟨i0, hi, hz0, hz1, hz2⟩ := info_parts infoByte
  have HC := Lib.hid (copyCheck_any B b _ w h)
  have hs : s.size ≤ 140737488355328 := by omega
  go_enter Tryz.func68, Tryz.ntmps68
  go_wp2_with fail
  refine HC.out.mono ?_
  rintro e w1 ⟨rfl, h1, hb1, hk1⟩
  have HK1 := Lib.hid hk1
  clear hk1
  obtain ⟨hB, v, hbk, hown, hne⟩ := h1
  rw [Lib.byteCells_length] at hown
  obtain ⟨va, vc, rfl⟩ : ∃ va vc, v = .slice va l.length vc := by
    rcases hown.2 with ⟨rfl, h0⟩ | ⟨g, cap, cur, rfl, _⟩
    · exact ⟨none, 0, by rw [h0]⟩
    · exact ⟨_, cap, rfl⟩
  have kw : Whole w1 b 117 #[.pointer (some ⟨b, 0, none⟩), .slice va l.length vc] := hbk
  have c1 := kw.cell 1
  simp only [List.getElem?_toArray, List.getElem?_cons_succ, List.getElem?_cons_zero] at c1
  have z1 := hb1.size
  have HOWN := Lib.hid hown
  have HNE := Lib.hid hne
  clear hown hne hbk
  go_wp2_with (at_builtin; refine Lib.wpList_append_own_string _ rfl _ _ 104 9 rfl B 5 i0 Tryz.underlying104 Tryz.underlying9 hi hz0 hz1 hz2 _ _ _ rfl HOWN.out s rfl (by unfold maxLen; omega) (by omega) (by omega) ?_; intro v' w2 hown' hgrow _; refine Hid.out ?_)
  refine Lib.hid ?_
  obtain ⟨a2, q2, rfl⟩ := own_slice' hown'
  have kw2 := kw.grown hgrow (fun e => HNE.out e.symm)
  have d1 := kw2.cell 1
  have f1 := kw2.frozen 1
  simp only [List.getElem?_toArray, List.getElem?_cons_succ, List.getElem?_cons_zero] at d1
  have HE : Hid (Lib.BuilderAt 117 5 B b (.pointer (some ⟨b, 0, none⟩)) (Lib.byteCells (l ++ s.data.toList)) (w2.setCell ⟨b, 1, none⟩ (.slice a2 (l.length + s.size) q2)) ∧ Below B w (w2.setCell ⟨b, 1, none⟩ (.slice a2 (l.length + s.size) q2)) ∧ Kept b w (w2.setCell ⟨b, 1, none⟩ (.slice a2 (l.length + s.size) q2))) := Lib.hid
    ⟨Lib.BuilderAt.put hB kw2 (by rw [Lib.byteCells_length, List.length_append, bytes_app, ← Lib.size_eq s]; exact hown') (by decide), (hb1.grown hgrow (by omega) (fun k hk => (HOWN.out.lt k hk).1)).setCell hB _, fun g t cs hg ht hw => ((HK1.out g t cs hg ht hw).grown hgrow (own_whole HOWN.out (HK1.out g t cs hg ht hw) (Ne.symm ht))).far hg _⟩
  clear hown' hgrow kw kw2
  go_wp2
  go_ret2
  exact ⟨rfl, .inr HE.out.1, HE.out.2.1, HE.out.2.2⟩
end Go.Proofs.YtpmbijlldoiplaaGreatDoor
