/- Plain facts: how long the string of a system is. -/
import Derived.Test.YtpmbijlldoiplaaGreatDoorEnv
namespace Go.Proofs.YtpmbijlldoiplaaGreatDoor
open Pl

theorem nm_len {acts : List ByteArray} (ha : actsB acts = true) {k : Nat} (hk : k < acts.length) : (at_ acts k).data.toList.length ≤ 20 := name_size (acts_name ha hk)
theorem edgeS_len {acts : List ByteArray} (ha : actsB acts = true) {ns : Nat} (hns : ns ≤ 9223372036854775807) {e : Edg} (he : okE acts.length ns e = true) : (edgeS acts e).length ≤ 43 := by
  have h := (okE_iff _ _ _).1 he
  have h1 := nm_len ha (k := e.1.toNat) (by omega)
  have h2 := dec_length e.2.toNat (by omega)
  unfold edgeS nmS
  simp only [List.length_append, List.length_cons, List.length_nil]
  omega
theorem flat_len {acts : List ByteArray} (ha : actsB acts = true) {ns : Nat} (hns : ns ≤ 9223372036854775807) : ∀ l : List Edg, (∀ e ∈ l, okE acts.length ns e = true) → (l.flatMap (edgeS acts)).length ≤ 43 * l.length
  | [], _ => by simp
  | e :: l, h => by
    have h1 := edgeS_len ha hns (h e (by simp))
    have h2 := flat_len ha hns l (fun x hx => h x (by simp [hx]))
    rw [List.flatMap_cons, List.length_append, List.length_cons]
    omega
theorem heads_len {acts : List ByteArray} (h : ∀ a ∈ acts, a.data.toList.length ≤ 20) : (acts.flatMap (fun a => [32] ++ a.data.toList)).length ≤ 21 * acts.length := by
  induction acts with
  | nil => simp
  | cons a l ih =>
    have h1 := h a (by simp)
    have h2 := ih (fun x hx => h x (by simp [hx]))
    rw [List.flatMap_cons]
    simp only [List.length_append, List.length_cons, List.length_nil] at h2 ⊢
    omega
theorem acts_len {acts : List ByteArray} (ha : actsB acts = true) : ∀ a ∈ acts, a.data.toList.length ≤ 20 := fun a h => by
  obtain ⟨k, hk, rfl⟩ := List.getElem_of_mem h
  have := nm_len ha hk
  unfold at_ at this
  rwa [List.getD_eq_getElem?_getD, List.getElem?_eq_getElem hk] at this
theorem row_ok {m : Syst} (h : sysB m = true) {i : Nat} (hi : i < m.states.length) : ∀ e ∈ stAt m.states i, okE m.acts.length m.states.length e = true := fun _ he => edge_in (((sysB_iff m).1 h).2.2.2.1 i hi) he
theorem strK_len {m : Syst} (h : sysB m = true) : ∀ k, k ≤ m.states.length → (strK m k).length ≤ 200 + 23 * k + 43 * total (m.states.take k)
  | 0, _ => by
    have h1 := heads_len (acts_len ((sysB_iff m).1 h).1)
    have h2 := ((actsB_iff m.acts).1 ((sysB_iff m).1 h).1).1
    unfold strK headS bSystem
    simp only [List.length_append, List.length_cons, List.length_nil, List.range_zero, List.flatMap_nil]
    omega
  | k + 1, hk => by
    have ih := strK_len h k (by omega)
    have hs := (sysB_iff m).1 h
    have h1 := flat_len hs.1 (ns := m.states.length) (by omega) (stAt m.states k) (row_ok h (by omega))
    have h2 := dec_length k (by omega)
    rw [strK_next, total_take m.states k (by omega)]
    unfold rowS
    simp only [List.length_append, List.length_cons, List.length_nil]
    omega
/-- the string of the first k states, and of the first x edges of the next one -/
def strX (m : Syst) (k x : Nat) : List UInt8 := strK m k ++ (Lib.decDigits k ++ [58]) ++ ((stAt m.states k).take x).flatMap (edgeS m.acts)
theorem strX_len {m : Syst} (h : sysB m = true) {k x : Nat} (hk : k < m.states.length) : (strX m k x).length ≤ 20000000 := by
  have hs := (sysB_iff m).1 h
  have h0 := strK_len h k (by omega)
  have h1 := flat_len hs.1 (ns := m.states.length) (by omega) ((stAt m.states k).take x) (fun e he => row_ok h hk e (List.mem_of_mem_take he))
  have h2 := dec_length k (by omega)
  have h3 := total_take m.states k hk
  have h4 := total_take_le m.states (k + 1)
  have h5 : ((stAt m.states k).take x).length ≤ (stAt m.states k).length := by rw [List.length_take]; omega
  unfold strX
  simp only [List.length_append, List.length_cons, List.length_nil]
  omega
theorem strX_next (m : Syst) (k x : Nat) (hx : x < (stAt m.states k).length) : strX m k (x + 1) = strX m k x ++ edgeS m.acts (edAt (stAt m.states k) x) := by
  unfold strX
  rw [take_next _ x (0, 0) hx, List.flatMap_append, List.flatMap_singleton, ← List.append_assoc]
  rfl
theorem strX_end (m : Syst) (k : Nat) : strX m k (stAt m.states k).length ++ [10] = strK m (k + 1) := by
  rw [strK_next]
  unfold strX rowS
  rw [List.take_length]
  simp
theorem strX_zero (m : Syst) (k : Nat) : strX m k 0 = strK m k ++ (Lib.decDigits k ++ [58]) := by simp [strX]
/-- the first line as far as j names -/
def headP (acts : List ByteArray) (j : Nat) : List UInt8 := bSystem ++ (acts.take j).flatMap (fun a => [32] ++ a.data.toList)
theorem headP_zero (acts : List ByteArray) : headP acts 0 = bSystem := by simp [headP]
theorem headP_all (acts : List ByteArray) : headP acts acts.length = headS acts := by simp [headP, headS]
theorem headP_next (acts : List ByteArray) (j : Nat) (h : j < acts.length) : headP acts (j + 1) = headP acts j ++ ([32] ++ (at_ acts j).data.toList) := by
  unfold headP
  rw [take_next acts j ByteArray.empty h, List.flatMap_append, List.flatMap_singleton, ← List.append_assoc]
  rfl
theorem headP_len {acts : List ByteArray} (ha : actsB acts = true) (j : Nat) : (headP acts j).length ≤ 200 := by
  have h3 := heads_len (acts := acts.take j) (fun a h => acts_len ha a (List.mem_of_mem_take h))
  have h2 := ((actsB_iff acts).1 ha).1
  rw [List.length_take] at h3
  unfold headP
  simp only [List.length_append, bSystem, List.length_cons, List.length_nil] at h3 ⊢
  omega
theorem mk_add (a b : List UInt8) : mk a ++ mk b = mk (a ++ b) := by
  apply ByteArray.ext
  simp [mk, ByteArray.data_append]
theorem mk_size' (l : List UInt8) : (mk l).size = l.length := by simp [mk, ByteArray.size]
end Go.Proofs.YtpmbijlldoiplaaGreatDoor
