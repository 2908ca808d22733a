/- A part of a list of strings; the first line of an object. -/
import Derived.Test.YtlnncklanabbdaaGreatDoorSplit2
namespace Go.Proofs.YtlnncklanabbdaaGreatDoor
open Go.RowKit Pl

/-- 'words[k:]' of strings -/
theorem cut_run (a : Option Addr) (n c k : Nat) (h : k ≤ n) (w' : World) : (Instr.slice 22 (.slice a n c) (some (.int .i64 k)) none none).run Tryz.prog w' = .ok (.slice (if c = k then a else a.map fun x => x.add k) (n - k) (c - k)) w' := by
  have h1 : (0 : Int) ≤ k := by omega
  have h2 : (k : Int) ≤ n := by omega
  go_simp
theorem cut_from {w : World} {a : Option Addr} {n c : Nat} {ss : List ByteArray} (A : StrArg w a n c ss) (k : Nat) (h : k ≤ n) :
    ∃ a', (∀ w', (Instr.slice 22 (.slice a n c) (some (.int .i64 k)) none none).run Tryz.prog w' = .ok (.slice a' (n - k) (c - k)) w') ∧ StrArg w a' (n - k) (c - k) (ss.drop k) ∧ ∀ ad, a' = some ad → ∃ ad0, a = some ad0 ∧ ad.block = ad0.block := by
  refine ⟨_, cut_run a n c k h, ⟨?_, by rw [List.length_drop, A.len], by have := A.cap; omega, by have := A.big; omega, fun j hj => ?_, fun j hj => ?_⟩, ?_⟩
  · intro e
    by_cases hc : c = k
    · omega
    · rw [if_neg hc] at e
      cases a with
      | none => have := A.nil rfl; omega
      | some x => cases e
  · have e : at_ (ss.drop k) j = at_ ss (k + j) := by simp [at_, List.getD]
    rw [e]
    exact A.sz _ (by omega)
  · rw [List.length_drop] at hj
    obtain ⟨b, off, rfl, hcell⟩ := A.cells (k + j) (by omega)
    have e : (ss.drop k).getD j ByteArray.empty = ss.getD (k + j) ByteArray.empty := by simp [List.getD]
    rw [e, if_neg (by have := A.cap; have := A.len; omega)]
    exact ⟨b, off + k, by simp [add_plainly], by rw [Nat.add_assoc]; exact hcell⟩
  · intro ad e
    by_cases hc : c = k
    · rw [if_pos hc] at e; exact ⟨ad, e, rfl⟩
    · rw [if_neg hc] at e
      cases a with
      | none => cases e
      | some x =>
        rw [Option.map_some, Option.some.injEq] at e
        refine ⟨x, rfl, ?_⟩
        rw [← e]
        unfold Addr.add
        split <;> rfl
theorem headO_eq (s : ByteArray) : headO s.data.toList = if at_ (spB 32 s) 0 = mk bSystem ∧ actsB ((spB 32 s).drop 1) = true then some ((spB 32 s).drop 1) else none := by
  unfold headO spB
  cases e : sp 32 s.data.toList with
  | nil => exact absurd e (sp_ne _ _)
  | cons h r =>
    have e1 : at_ ((h :: r).map mk) 0 = mk h := rfl
    have e2 : ((h :: r).map mk).drop 1 = r.map mk := rfl
    rw [e1, e2]
    have e3 : (mk h = mk bSystem) ↔ h = bSystem := ⟨fun q => by have := congrArg (fun x : ByteArray => x.data.toList) q; simpa [mk] using this, fun q => by rw [q]⟩
    simp only [e3]
theorem sys_eq (x : ByteArray) : (x.toList == [115, 121, 115, 116, 101, 109]) = decide (x = mk bSystem) := by
  rw [Bool.eq_iff_iff, beq_iff_eq, decide_eq_true_iff, ByteArray.toList_eq]
  constructor
  · intro h
    rw [← mk_of x, h]; rfl
  · rintro rfl
    rfl

end Go.Proofs.YtlnncklanabbdaaGreatDoor
