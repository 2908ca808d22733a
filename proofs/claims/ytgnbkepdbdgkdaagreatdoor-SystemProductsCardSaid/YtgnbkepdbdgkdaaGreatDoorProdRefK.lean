/- Plain facts: the way of the reference to the product: edges as numbers, sorted; nothing here is about a program. -/
import Derived.Test.YtgnbkepdbdgkdaaGreatDoorJq20
namespace Go.Proofs.YtgnbkepdbdgkdaaGreatDoor
open Go Go.Lib Pl

/-- an edge as one number -/
def codeE (e : Edg) : Int := e.1 * 4294967296 + e.2
def decE (c : Int) : Edg := (c / 4294967296, c % 4294967296)
def okC (e : Edg) : Prop := 0 ≤ e.1 ∧ e.1 < 8 ∧ 0 ≤ e.2 ∧ e.2 < 4294967296
theorem dec_code {e : Edg} (h : okC e) : decE (codeE e) = e := by
  obtain ⟨_, _, h1, h2⟩ := h
  unfold decE codeE
  refine Prod.ext ?_ ?_
  · show (e.1 * 4294967296 + e.2) / 4294967296 = e.1
    omega
  · show (e.1 * 4294967296 + e.2) % 4294967296 = e.2
    omega
theorem code_lt {d e : Edg} (hd : okC d) (he : okC e) : ltE d e = true ↔ codeE d < codeE e := by
  obtain ⟨_, _, h1, h2⟩ := hd
  obtain ⟨_, _, h3, h4⟩ := he
  rw [ltE_iff]
  unfold codeE
  omega
/-- numbers in order -/
def RiseI (l : List Int) : Prop := l.Pairwise (· ≤ ·)
theorem sorted_codes {l : List Edg} (hn : l.Nodup) (hok : ∀ e ∈ l, okC e) {c : List Int} (hp : c.Perm (l.map codeE)) (hs : RiseI c) : c.map decE = sortEd l := by
  have hcn : (l.map codeE).Nodup := by
    unfold List.Nodup
    rw [List.pairwise_map]
    refine hn.imp_of_mem fun {a b} ha hb hab h9 => hab ?_
    rw [← dec_code (hok a ha), ← dec_code (hok b hb), h9]
  have hcn2 : c.Nodup := hp.nodup_iff.2 hcn
  have hmem : ∀ x, x ∈ c → ∃ e ∈ l, codeE e = x := fun x hx => List.mem_map.1 (hp.mem_iff.1 hx)
  refine rise_eq _ _ ?_ (sort_rise hn) fun x => ?_
  · unfold Rise
    rw [List.pairwise_map]
    refine (hs.and hcn2).imp_of_mem fun {a b} ha hb hab => ?_
    obtain ⟨d, hd, rfl⟩ := hmem a ha
    obtain ⟨e, he, rfl⟩ := hmem b hb
    rw [dec_code (hok d hd), dec_code (hok e he), code_lt (hok d hd) (hok e he)]
    have := hab.1
    have := hab.2
    omega
  · rw [sort_mem, List.mem_map]
    constructor
    · rintro ⟨a, ha, rfl⟩
      obtain ⟨d, hd, rfl⟩ := hmem a ha
      rw [dec_code (hok d hd)]
      exact hd
    · intro hx
      exact ⟨codeE x, hp.mem_iff.2 (List.mem_map.2 ⟨x, hx, rfl⟩), dec_code (hok x hx)⟩
/-- .. of one edge of the first state, up to a place of the second one's -/
def rRow (d : Edg) (k : List Edg) : List Jn := (k.filter fun e => decide (e.1 = d.1)).map fun e => (d.1, (d.2.toNat, e.2.toNat))
theorem jntR_next {l k : List Edg} {t : Nat} (h : t < l.length) : jntR (l.take (t + 1)) k = jntR (l.take t) k ++ rRow (edAt l t) k := by
  unfold jntR rRow
  rw [take_next l t (0, 0) h, List.flatMap_append]
  simp [edAt]
theorem rRow_yes {d : Edg} {k : List Edg} {u : Nat} (h : u < k.length) (he : (edAt k u).1 = d.1) : rRow d (k.take (u + 1)) = rRow d (k.take u) ++ [(d.1, (d.2.toNat, (edAt k u).2.toNat))] := by
  unfold rRow
  rw [take_next k u (0, 0) h, List.filter_append, List.map_append]
  have e9 : k.getD u (0, 0) = edAt k u := rfl
  rw [e9]
  simp [he]
theorem rRow_no {d : Edg} {k : List Edg} {u : Nat} (h : u < k.length) (he : (edAt k u).1 ≠ d.1) : rRow d (k.take (u + 1)) = rRow d (k.take u) := by
  unfold rRow
  rw [take_next k u (0, 0) h, List.filter_append, List.map_append]
  have e9 : k.getD u (0, 0) = edAt k u := rfl
  rw [e9]
  simp [he]
theorem rRow_pre {d : Edg} {k : List Edg} (u : Nat) : ∃ t, rRow d k = rRow d (k.take u) ++ t := by
  refine ⟨rRow d (k.drop u), ?_⟩
  unfold rRow
  rw [← List.map_append, ← List.filter_append, List.take_append_drop]
theorem jntR_pre {l k : List Edg} (t : Nat) : ∃ r, jntR l k = jntR (l.take t) k ++ r := by
  refine ⟨jntR (l.drop t) k, ?_⟩
  unfold jntR
  rw [← List.flatMap_append, List.take_append_drop]
/-- the places: the number of a pair, and one more; 0 for those that are not there -/
def plP (L : List P2) (p q : Nat) : Nat := if (p, q) ∈ L then L.idxOf (p, q) + 1 else 0
theorem plP_zero {L : List P2} {p q : Nat} : plP L p q = 0 ↔ (p, q) ∉ L := by
  unfold plP
  split
  · rename_i h
    exact ⟨fun e => by omega, fun e => absurd h e⟩
  · rename_i h
    exact ⟨fun _ => h, fun _ => rfl⟩
theorem plP_add {L : List P2} {p q : Nat} (h : (p, q) ∉ L) (x y : Nat) : plP (L ++ [(p, q)]) x y = if x = p ∧ y = q then L.length + 1 else plP L x y := by
  unfold plP
  by_cases e : x = p ∧ y = q
  · obtain ⟨rfl, rfl⟩ := e
    rw [if_pos (by simp), if_pos ⟨rfl, rfl⟩, List.idxOf_append, if_neg h]
    simp
  · rw [if_neg e]
    have e2 : ((x, y) : P2) ≠ (p, q) := fun h9 => e (Prod.mk.inj h9)
    by_cases h2 : (x, y) ∈ L
    · rw [if_pos (by simp [h2]), if_pos h2, List.idxOf_append, if_pos h2]
    · rw [if_neg (fun h9 => by
        rcases List.mem_append.1 h9 with h9 | h9
        · exact h2 h9
        · exact e2 (by simpa using h9)), if_neg h2]
end Go.Proofs.YtgnbkepdbdgkdaaGreatDoor
