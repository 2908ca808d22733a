/- strings.Split at one byte, strings.TrimSuffix, strings.Clone as the program calls them; parseActions. -/
import Derived.Test.YtlnncklanabbdaaGreatDoorNumb
import Derived.Test.YtlnncklanabbdaaGreatDoorCopy
import Derived.Lib.SlSplitV
namespace Go.Proofs.YtlnncklanabbdaaGreatDoor
open Go.RowKit Pl

theorem sp_len (c : UInt8) : ∀ (l : List UInt8), ∀ x ∈ sp c l, x.length ≤ l.length
  | [], x, h => by simp [sp] at h; simp [h]
  | y :: r, x, h => by
    have ih := sp_len c r
    by_cases hc : y = c
    · subst hc
      rw [sp_at] at h
      rcases List.mem_cons.1 h with rfl | h
      · simp
      · have := ih x h; simp; omega
    · obtain ⟨p, ps, h1, h2⟩ := sp_other hc r
      rw [h2] at h
      rw [h1] at ih
      rcases List.mem_cons.1 h with rfl | h
      · have := ih p (by simp); simp; omega
      · have := ih x (by simp [h]); simp; omega
/-- the parts as strings -/
def spB (c : UInt8) (s : ByteArray) : List ByteArray := (sp c s.data.toList).map mk
theorem split_eq (c : UInt8) (s : ByteArray) : Lib.splitB (⟨#[c]⟩ : ByteArray) 0 (Lib.countB s ⟨#[c]⟩) s = spB c s := by
  have h := Lib.splitB_data (⟨#[c]⟩ : ByteArray) 0 (Lib.countB s ⟨#[c]⟩) s
  have h2 : Lib.splitK (⟨#[c]⟩ : ByteArray).data.toList 0 (Lib.countB s ⟨#[c]⟩) s.data.toList = sp c s.data.toList := split_sp c s.data.toList.length s.data.toList (Nat.le_refl _)
  rw [h2] at h
  unfold spB
  rw [← h, List.map_map]
  have : (mk ∘ fun x : ByteArray => x.data.toList) = id := by funext x; exact mk_of x
  rw [this, List.map_id]
theorem spB_at (c : UInt8) (s : ByteArray) (k : Nat) (h : k < (spB c s).length) : at_ (spB c s) k ∈ spB c s := by
  unfold at_
  rw [List.getD_eq_getElem?_getD, List.getElem?_eq_getElem h]
  exact List.getElem_mem h
theorem spB_size {c : UInt8} {s x : ByteArray} (h : x ∈ spB c s) : x.size ≤ s.size := by
  obtain ⟨l, hl, rfl⟩ := List.mem_map.1 h
  rw [mk_size', Lib.size_eq s]
  exact sp_len c _ l hl
theorem spB_pos (c : UInt8) (s : ByteArray) : 0 < (spB c s).length := by
  unfold spB
  rw [List.length_map]
  exact List.length_pos_iff.2 (sp_ne c _)
theorem sp_count (c : UInt8) : ∀ (l : List UInt8), (sp c l).length ≤ l.length + 1
  | [] => by simp [sp]
  | y :: r => by
    have ih := sp_count c r
    by_cases hc : y = c
    · subst hc; rw [sp_at]; simp; omega
    · obtain ⟨p, ps, h1, h2⟩ := sp_other hc r
      rw [h2]; rw [h1] at ih; simp at ih ⊢; omega
theorem spB_count (c : UInt8) (s : ByteArray) : (spB c s).length ≤ s.size + 1 := by
  unfold spB
  rw [List.length_map, Lib.size_eq s]
  exact sp_count c _
theorem strs_new (w : World) (ss : List ByteArray) (hb : ss.length ≤ 9223372036854775807) (hs : ∀ x ∈ ss, x.size ≤ 9223372036854775807) :
    StrArg (w.alloc (.cells (ss.map Value.string).toArray 9)) (some ⟨w.heap.size, 0, none⟩) ss.length ss.length ss := by
  refine ⟨(fun h => by cases h), rfl, Nat.le_refl _, hb, fun k hk => ?_, fun k hk => ⟨w.heap.size, 0, rfl, ?_⟩⟩
  · unfold at_
    rw [List.getD_eq_getElem?_getD, List.getElem?_eq_getElem hk]
    exact hs _ (List.getElem_mem hk)
  · rw [(Whole.new w 9 (ss.map Value.string).toArray).cell]
    simp [List.getD, hk]
theorem split_any (c : UInt8) (s : ByteArray) (hs : s.size ≤ 1000000) (w : World) (E : Env w) :
    Calls Tryz.prog 100 #[.string s, .string ⟨#[c]⟩] w fun e w' => e = .returned (.slice (some ⟨w.heap.size, 0, none⟩) (spB c s).length (spB c s).length) ∧ w.alloc (.cells ((spB c s).map Value.string).toArray 9) = w' := by
  obtain ⟨m, hm⟩ := E.most
  refine (Tryz.strings_Split s ⟨#[c]⟩ m w (by omega) hm (Nat.le_refl 1)).mono fun e w' h => ?_
  obtain ⟨rfl, rfl⟩ := h
  have hlen := Lib.splitB_all (⟨#[c]⟩ : ByteArray) (Nat.le_refl 1) 0 _ s rfl
  rw [split_eq] at hlen ⊢
  exact ⟨by rw [hlen], rfl⟩
theorem trim_any (s : ByteArray) (hs : s.size ≤ 1000000) (w : World) :
    Calls Tryz.prog 101 #[.string s, .string ⟨#[10]⟩] w fun e w' => e = .returned (.string (mk (cut1 s.data.toList))) ∧ w = w' :=
  (Tryz.strings_TrimSuffix s ⟨#[10]⟩ w (by omega)).mono fun e w' h => ⟨h.1, h.2.symm⟩
theorem clone_any (s : ByteArray) (hs : s.size ≤ 1000000) (w : World) :
    Calls Tryz.prog 102 #[.string s] w fun e w' => e = .returned (.string s) ∧ Below w.heap.size w w' := by
  have HC := Lib.hid (Tryz.stringslite_Clone s w (by omega))
  go_enter Tryz.func102, Tryz.ntmps102
  go_wp2_with fail
  refine HC.out.mono ?_
  rintro e w' ⟨rfl, hb⟩
  go_wp2
  go_ret
  exact ⟨rfl, hb⟩
end Go.Proofs.YtlnncklanabbdaaGreatDoor
