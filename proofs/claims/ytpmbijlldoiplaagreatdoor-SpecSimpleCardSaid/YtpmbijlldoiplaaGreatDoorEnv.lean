/- What the package-level variables hold; strconv.Itoa, strings.Split, strings.TrimSuffix as the program calls them. -/
import Derived.Test.YtpmbijlldoiplaaGreatDoorBuild
import Derived.Test.YtpmbijlldoiplaaGreatDoorText2
import Derived.Test.YtpmbijlldoiplaaGreatDoorShelf
import Derived.Lib.AppendIntMem
import Derived.Lib.AtoiErrMem
import Derived.Lib.ItoaLen
namespace Go.Proofs.YtpmbijlldoiplaaGreatDoor
open Go.RowKit Pl

/-- what the package-level variables hold -/
structure Env (w : World) : Prop where
  errs : ∃ e0 e1 e2, Errs w e0 e1 e2
  tab : Lib.TabIs Tryz.prog w "internal/strconv.uint64pow10" .u64 Lib.pow10Tab
  range : ∃ tp p, w.var? Tryz.prog "strconv.ErrRange" = some #[.iface tp p]
  most : ∃ m, w.cell? ⟨6, 0, none⟩ = some (.int .i64 m)
  vars : 11 ≤ w.heap.size
theorem Env.below {w w' : World} (h : Env w) (hb : Below w.heap.size w w') : Env w' := by
  obtain ⟨e0, e1, e2, hE⟩ := h.errs
  obtain ⟨tp, p, hr⟩ := h.range
  obtain ⟨m, hm⟩ := h.most
  have hv := h.vars
  exact ⟨⟨e0, e1, e2, hE.below hb⟩, var?_below (g := 5) hb (by kernel_rfl) (by omega) h.tab, ⟨tp, p, var?_below (g := 8) hb (by kernel_rfl) (by omega) hr⟩,
    ⟨m, (hb.cell (lt_of_cell hm)).trans hm⟩, Nat.le_trans hv hb.size⟩
theorem Bld.up {B b : Nat} {l : List UInt8} {w w' : World} (h : Bld B b l w) (hb : Below w.heap.size w w') : Bld B b l w' := by
  rcases h with h | h
  all_goals
    have hlt := h.lt
    obtain ⟨h1, v, h2, h3, h4⟩ := h
  · exact .inl ⟨h1, v, (hb.block b hlt).trans h2, h3.kept (below_grown' hb) (by cases v.ownBlock <;> simp), h4⟩
  · exact .inr ⟨h1, v, (hb.block b hlt).trans h2, h3.kept (below_grown' hb) (by cases v.ownBlock <;> simp), h4⟩
theorem itoa_any (n : Nat) (hn : n ≤ 9223372036854775807) (w : World) (E : Env w) :
    Calls Tryz.prog 69 #[.int .i64 n] w fun e w' => e = .returned (.string (mk (Lib.decDigits n))) ∧ Below w.heap.size w w' := by
  refine (Tryz.strconv_Itoa n (by omega) (by omega) w E.tab).mono fun e w' h => ?_
  obtain ⟨rfl, k, os, rfl⟩ := h
  refine ⟨?_, Lib.below_grow _ w (Nat.le_refl _) k os⟩
  unfold Lib.itoa
  rw [if_neg (by omega)]
  rfl
theorem dec_length (n : Nat) (hn : n ≤ 9223372036854775807) : (Lib.decDigits n).length ≤ 21 := by
  have h := Lib.itoa_length_le (n : Int) (by omega) (by omega)
  unfold Lib.itoa at h
  rw [if_neg (by omega)] at h
  simpa using h
theorem str_any (B b : Nat) (l : List UInt8) (w : World) (h : Bld B b l w) (h0 : l ≠ []) :
    Calls Tryz.prog 70 #[.pointer (some ⟨b, 0, none⟩)] w fun e w' => e = .returned (.string (mk l)) ∧ Below B w w' := Tryz.Builder_String B b l w h h0
end Go.Proofs.YtpmbijlldoiplaaGreatDoor
