/- Plain facts: edges led to other states, numbered as they come; nothing here is about a program. -/
import Derived.Test.YtgnbkepdbdgkdaaGreatDoorJq19
namespace Go.Proofs.YtgnbkepdbdgkdaaGreatDoor.Pl
open Go Go.Lib

def redL (L : List Nat) (es : List Edg) : List Edg := es.map fun e => (e.1, (((ordE L es).idxOf e.2.toNat : Nat) : Int))
theorem redL_len (L : List Nat) (es : List Edg) : (redL L es).length = es.length := by simp [redL]
theorem mem_cAdd_self (l : List Nat) (y : Nat) : y ∈ cAdd l y := (cAdd_mem l y y).2 (.inr rfl)
theorem mem_ordE {x : Edg} : ∀ (es : List Edg) (L : List Nat), x ∈ es → x.2.toNat ∈ ordE L es
  | e :: es, L, h => by
    rcases List.mem_cons.1 h with h | h
    · subst h
      exact (ordE_pre es (cAdd L x.2.toNat)).subset (mem_cAdd_self L _)
    · exact mem_ordE es (cAdd L e.2.toNat) h
theorem idx_cAdd {l : List Nat} {x : Nat} (h : x ∈ l) (y : Nat) : (cAdd l y).idxOf x = l.idxOf x := by
  unfold cAdd
  split
  · rfl
  · rw [List.idxOf_append, if_pos h]
theorem redL_next {L : List Nat} {es : List Edg} {j : Nat} (hj : j < es.length) :
    redL L (es.take (j + 1)) = redL L (es.take j) ++ [((edAt es j).1, (((cAdd (ordE L (es.take j)) (edAt es j).2.toNat).idxOf (edAt es j).2.toNat : Nat) : Int))] := by
  have e1 := ordE_next (l := L) hj
  have e2 : edAt es j = es[j] := by simp [edAt, List.getD, hj]
  unfold redL
  rw [e1, e2, List.take_succ_eq_append_getElem hj, List.map_append]
  congr 1
  refine List.map_congr_left fun e he => ?_
  rw [idx_cAdd (mem_ordE _ L he)]
end Go.Proofs.YtgnbkepdbdgkdaaGreatDoor.Pl
