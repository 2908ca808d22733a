/- Texts joined: Collect. -/
import Derived.Test.YtgpfpnenpgnogaaGreatDoorJa18
import Derived.Maps.AppendAt
/- slices.AppendSeq and slices.Collect at int, over an iterator that keeps what lay; act.List. -/
namespace Go.Proofs.YtgpfpnenpgnogaaGreatDoor
open Go.RowKit Go.Shelf Pl

theorem infoInt : (Tryz.prog.info? 3).map (fun i => (i.zero, i.size, i.bytes)) = some (some (.int .i64 0), 1, 8) := by kernel_rfl

attribute [local go_sem] Oper.semAt_some

/-- act.members: a value that captures the set's new box -/
theorem members_any (x : Int) (w : World) :
    Calls Tryz.prog 98 #[.int .i64 x] w fun e w' => e = .returned (.func (.func 122) #[] #[.pointer (some ⟨w.heap.size, 0, none⟩)]) ∧ w.alloc (.cells #[.int .i64 x] 3) = w' := by
  go_enter Tryz.func98, Tryz.ntmps98
  go_wp2
  go_ret
  exact ⟨rfl, rfl⟩

theorem memL_len (x : Nat) : (memL x).length ≤ 8 := by
  unfold memL
  exact Nat.le_trans (List.length_filter_le _ _) (by simp)
theorem prefix_len {x : Nat} {pre : List Nat} {k : Nat} (h : pre ++ [k] <+: memL x) : pre.length < 8 := by
  have h1 := h.length_le
  have h2 := memL_len x
  rw [List.length_append, List.length_singleton] at h1
  omega

/-- the code that the check of a set answers -/
def setCode (ss : List ByteArray) (xs : List Int) : Int := if actsB ss then (if xs.all (setB ss.length) then 0 else 1) else 10
theorem setsErr_code {w : World} {e0 e1 e2 : Addr} (E : Errs w e0 e1 e2) (ss : List ByteArray) (xs : List Int) :
    Calls Tryz.prog 97 #[setsErr e0 e1 ss xs] w fun e w' => e = .returned (.int .i64 (setCode ss xs)) ∧ w = w' := by
  unfold setsErr setCode
  cases actsB ss
  · exact code_acts w e0 e1 e2 E
  · cases xs.all (setB ss.length)
    · exact code_set w e0 e1 e2 E
    · exact code_nil w e0 e1 e2 E
theorem setsErr_iface (e0 e1 : Addr) {ss : List ByteArray} {xs : List Int} (h : setCode ss xs ≠ 0) : ∃ a, setsErr e0 e1 ss xs = .iface 290 (.pointer (some a)) := by
  unfold setCode at h
  unfold setsErr
  cases h1 : actsB ss
  · exact ⟨e0, rfl⟩
  · cases h2 : xs.all (setB ss.length)
    · exact ⟨e1, rfl⟩
    · rw [h1, h2] at h; simp at h
theorem set_ok {ss : List ByteArray} {xs : List Int} (hz : setCode ss xs = 0) : actsB ss = true ∧ xs.all (setB ss.length) = true := by
  unfold setCode at hz
  cases h1 : actsB ss
  · rw [h1] at hz; simp at hz
  · cases h2 : xs.all (setB ss.length)
    · rw [h1, h2] at hz; simp at hz
    · exact ⟨rfl, rfl⟩
theorem one_int (w : World) (x : Int) (t : TypeId) : IntArg (w.alloc (.cells #[.int .i64 x] t)) (some ⟨w.heap.size, 0, none⟩) 1 1 [x] :=
  ⟨(fun h => by cases h), rfl, Nat.le_refl _, by omega, fun j hj => ⟨w.heap.size, 0, rfl, by
    have : j = 0 := by simp at hj; omega
    subst this
    exact cell_first w (.int .i64 x) t⟩⟩
theorem set_lt {ss : List ByteArray} {x : Int} (h : actsB ss = true) (hx : [x].all (setB ss.length) = true) : 0 ≤ x ∧ x < 256 := by
  have h8 := ((actsB_iff ss).1 h).1
  rw [List.all_cons, List.all_nil, Bool.and_true, setB_iff] at hx
  have h1 : 2 ^ ss.length ≤ 2 ^ 8 := Nat.pow_le_pow_right (by decide) h8
  have h3 : ((2 ^ ss.length : Nat) : Int) = (2 : Int) ^ ss.length := by norm_cast
  omega

/-- what List answers -/
def listL (ss : List ByteArray) (x : Int) : List Nat := if setCode ss [x] = 0 then memL x.toNat else []

end Go.Proofs.YtgpfpnenpgnogaaGreatDoor
