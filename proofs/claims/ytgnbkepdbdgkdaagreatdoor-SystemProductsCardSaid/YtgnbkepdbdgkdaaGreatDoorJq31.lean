/- Texts joined: ProdAft, ShelfB. -/
import Derived.Test.YtgnbkepdbdgkdaaGreatDoorJq20
import Derived.Test.YtgnbkepdbdgkdaaGreatDoorJq17
import Derived.Shelf.Strings.Builder1
import Derived.Shelf.Strings.Builder2
import Derived.Shelf.Strings.OnBuilder
import Derived.Shelf.Small.Bits
import Derived.Shelf.Small.Wraps
import Derived.Shelf.Strings.BuilderF
import Derived.Shelf.Strings.BuilderK
import Derived.Shelf.Strconv.Atoi
import Derived.Shelf.Strconv.Itoa0
import Derived.Shelf.Strconv.Itoa1
import Derived.Shelf.LaysM
import Derived.Shelf.Strconv.Itoa2
import Derived.Shelf.Strconv.Itoa3
import Derived.Shelf.Strconv.AtoiErrFast
import Derived.Shelf.Strconv.ParseIntEmpty
import Derived.Shelf.Strconv.AtoiFail
import Derived.Shelf.Strconv.Clone
import Derived.Shelf.Strconv.SyntaxError
import Derived.Shelf.LaysC
import Derived.Shelf.Strconv.ToError
import Derived.Shelf.Strconv.Lower
import Derived.Shelf.Strconv.ParseUint10
import Derived.Shelf.Strconv.ParseUint10Empty
import Derived.Shelf.Strconv.ParseUint10Any
import Derived.Shelf.Strconv.ParseInt10
import Derived.Shelf.Strconv.AtoiLong
import Derived.Shelf.Strconv.AtoiInnerAll
import Derived.Shelf.Strconv.RangeError
import Derived.Shelf.Strconv.ToErrorRange
import Derived.Shelf.Strconv.AtoiAll
import Derived.Shelf.Strconv.ErrVarAll
import Derived.Shelf.Strings.Search1
import Derived.Shelf.Strings.Search2
import Derived.Shelf.Strings.Search3
import Derived.Shelf.Strings.Count
import Derived.Shelf.Strings.Shaped
import Derived.Shelf.Sort.Plain
import Derived.Shelf.Strings.Prefix
import Derived.Shelf.Strings.Split
import Derived.Shelf.Bits.Mul64
import Derived.Shelf.Unicode.DecodeSlow
import Derived.Shelf.Slices.Turned
import Derived.Shelf.Slices.Reverse
import Derived.Shelf.Slices.Equal
import Derived.Ground.Names2Prog
import Derived.Shelf.Slices.Clone
import Derived.Shelf.Slices.Cells
import Derived.Shelf.Slices.In.SortNone
import Derived.Shelf.Slices.Empties2
import Derived.Test.YtgnbkepdbdgkdaaGreatDoorProg
/- Plain facts: the states after a word in the product are the pairs of states after it in both; nothing here is about a program. -/
namespace Go.Proofs.YtgnbkepdbdgkdaaGreatDoor
open Go Go.Lib Pl

theorem prRow_mem {m n : Syst} {r : Nat} {e : Edg} : e ∈ prRow m n r ↔ ∃ x ∈ jAt m n (pAt m n r), e = (x.1, (((prE (prQ m n r) (jAt m n (pAt m n r))).idxOf x.2 : Nat) : Int)) := by
  unfold prRow
  rw [sort_mem]
  unfold prR
  rw [List.mem_map]
  exact ⟨fun ⟨x, h1, h2⟩ => ⟨x, h1, h2.symm⟩, fun ⟨x, h1, h2⟩ => ⟨x, h1, h2.symm⟩⟩
theorem leads_mem {l : List Edg} {a : Int} {y : Nat} : leads l a y = true ↔ (a, (y : Int)) ∈ l := by
  unfold leads
  rw [List.any_eq_true]
  constructor
  · rintro ⟨e, he, h⟩
    simp only [Bool.and_eq_true, decide_eq_true_eq] at h
    have e9 : e = (a, (y : Int)) := Prod.ext h.1 h.2
    rw [← e9]; exact he
  · intro h
    exact ⟨_, h, by simp⟩
theorem jAt_leads {m n : Syst} (hm : sysB m = true) (hn : sysB n = true) {p q : P2} (hp : p.1 < m.states.length ∧ p.2 < n.states.length) {a : Int} :
    (a, q) ∈ jAt m n p ↔ leads (stAt m.states p.1) a q.1 = true ∧ leads (stAt n.states p.2) a q.2 = true := by
  have h8 : m.acts.length ≤ 8 := ((actsB_iff m.acts).1 ((sysB_iff m).1 hm).1).1
  rw [leads_mem, leads_mem]
  constructor
  · intro h
    obtain ⟨u, hu, h1, d, hd, hd1, f, hf, hf1, h2⟩ := jnt_mem.1 h
    have q1 := edgeP_in hm hp.1 hd
    have q2 := edgeP_in hn hp.2 hf
    simp only at h1 h2
    subst h2
    have e1 : (a, (((d.2.toNat, f.2.toNat) : P2).1 : Int)) = d := Prod.ext (by simp only; omega) (by simp only; omega)
    have e2 : (a, (((d.2.toNat, f.2.toNat) : P2).2 : Int)) = f := Prod.ext (by simp only; omega) (by simp only; omega)
    rw [e1, e2]
    exact ⟨hd, hf⟩
  · rintro ⟨h1, h2⟩
    have q1 := edgeP_in hm hp.1 h1
    simp only at q1
    obtain ⟨u, rfl⟩ := Int.eq_ofNat_of_zero_le q1.1
    exact jnt_mem.2 ⟨u, by omega, rfl, _, h1, rfl, _, h2, rfl, Prod.ext (by simp) (by simp)⟩
theorem nodup_sub : ∀ (l l' : List P2), l.Nodup → (∀ x ∈ l, x ∈ l') → l.length ≤ l'.length
  | [], _, _, _ => by simp
  | x :: l, l', hn, h => by
    have h1 := List.nodup_cons.1 hn
    have h2 := nodup_sub l (l'.erase x) h1.2 (fun y hy => by
      refine (List.mem_erase_of_ne (fun e => by subst e; exact h1.1 hy)).2 (h y (List.mem_cons_of_mem _ hy)))
    have h3 := List.length_erase_of_mem (h x (by simp))
    have h4 : 0 < l'.length := List.length_pos_of_mem (h x (by simp))
    rw [List.length_cons]
    omega
section
variable {m n : Syst} {i : Nat}
theorem prQ_at {L : List P2} (hn : L.Nodup) {z : Nat} (hz : z < L.length) {q : P2} : q ∈ L ∧ L.idxOf q = z ↔ L.getD z (0, 0) = q := by
  have e : L.getD z (0, 0) = L[z] := by simp [List.getD, hz]
  rw [e]
  constructor
  · rintro ⟨h, rfl⟩
    exact List.getElem_idxOf _
  · rintro rfl
    exact ⟨List.getElem_mem hz, hn.idxOf_getElem z hz⟩
theorem hit_prod (hm : sysB m = true) (hn : sysB n = true) (h : PrOk m n i) {F : List Nat} (hF : ∀ r ∈ F, r < i) (a : Int) {z : Nat} (hz : z < i) :
    hitP (prRows m n i) F a z = true ↔ ∃ r ∈ F, leads (stAt m.states ((prQ m n i).getD r (0, 0)).1) a ((prQ m n i).getD z (0, 0)).1 = true ∧ leads (stAt n.states ((prQ m n i).getD r (0, 0)).2) a ((prQ m n i).getD z (0, 0)).2 = true := by
  have hin := prQ_in hm hn i h.1
  have hzl : z < (prQ m n i).length := by rw [h.2]; exact hz
  unfold hitP
  rw [List.any_eq_true]
  have key : ∀ r ∈ F, leads (stAt (prRows m n i) r) a z = true ↔ (leads (stAt m.states ((prQ m n i).getD r (0, 0)).1) a ((prQ m n i).getD z (0, 0)).1 = true ∧ leads (stAt n.states ((prQ m n i).getD r (0, 0)).2) a ((prQ m n i).getD z (0, 0)).2 = true) := by
    intro r hr
    have hri := hF r hr
    have hrl := (h.1 r hri).1
    have hpre := prQ_pre m n r (i - r)
    rw [show r + (i - r) = i by omega] at hpre
    have hpre2 := prQ_pre m n (r + 1) (i - (r + 1))
    rw [show r + 1 + (i - (r + 1)) = i by omega, prQ_succ] at hpre2
    have ep : (prQ m n i).getD r (0, 0) = pAt m n r := pre_getD hpre hrl
    have hp : (pAt m n r).1 < m.states.length ∧ (pAt m n r).2 < n.states.length := by
      have := (prQ_in hm hn r (fun j hj => h.1 j (by omega))).low _ (pAt_mem hrl)
      exact this
    rw [ep, leads_mem, prRows_at hri, prRow_mem, ← jAt_leads hm hn hp]
    constructor
    · rintro ⟨x, hx, e⟩
      simp only [Prod.mk.injEq] at e
      have hx2 : x.2 ∈ prE (prQ m n r) (jAt m n (pAt m n r)) := (prE_mem _ _ _).2 (.inr ⟨x, hx, rfl⟩)
      have h5 : (prQ m n i).idxOf x.2 = z := by rw [pre_idx hpre2 hx2]; omega
      have h6 := (prQ_at hin.nodup hzl).1 ⟨hpre2.subset hx2, h5⟩
      rw [h6]
      have e9 : (a, x.2) = x := Prod.ext e.1 rfl
      rw [e9]; exact hx
    · intro hx
      have hx2 : (prQ m n i).getD z (0, 0) ∈ prE (prQ m n r) (jAt m n (pAt m n r)) := (prE_mem _ _ _).2 (.inr ⟨_, hx, rfl⟩)
      have h6 := ((prQ_at hin.nodup hzl).2 rfl).2
      rw [pre_idx hpre2 hx2] at h6
      exact ⟨_, hx, by simp only [h6]⟩
  constructor
  · rintro ⟨r, hr, h1⟩; exact ⟨r, hr, (key r hr).1 h1⟩
  · rintro ⟨r, hr, h1⟩; exact ⟨r, hr, (key r hr).2 h1⟩
theorem after_prod (hm : sysB m = true) (hn : sysB n = true) (h : PrOk m n i) : ∀ (w : List Int),
    (∀ z, z ∈ afterL (prRows m n i) w ↔ z < i ∧ ((prQ m n i).getD z (0, 0)).1 ∈ afterL m.states w ∧ ((prQ m n i).getD z (0, 0)).2 ∈ afterL n.states w) ∧ ∀ p q, p ∈ afterL m.states w → q ∈ afterL n.states w → (p, q) ∈ prQ m n i := by
  have hin := prQ_in hm hn i h.1
  have h0 : 0 < i := by
    rcases Nat.eq_zero_or_pos i with q | q
    · subst q
      have := h.2
      simp [prQ] at this
    · exact q
  have hpre := prQ_pre m n 0 i
  rw [Nat.zero_add] at hpre
  have e0 : (prQ m n i).getD 0 (0, 0) = (0, 0) := pre_getD hpre (by simp [prQ])
  have hmain : ∀ (k : Nat) (w : List Int), w.length = k → (∀ z, z ∈ afterL (prRows m n i) w ↔ z < i ∧ ((prQ m n i).getD z (0, 0)).1 ∈ afterL m.states w ∧ ((prQ m n i).getD z (0, 0)).2 ∈ afterL n.states w) ∧ ∀ p q, p ∈ afterL m.states w → q ∈ afterL n.states w → (p, q) ∈ prQ m n i := by
    intro k
    induction k with
    | zero =>
      intro w hw
      obtain rfl : w = [] := List.length_eq_zero_iff.1 hw
      have a1 : ∀ ss : List (List Edg), afterL ss [] = [0] := fun _ => rfl
      simp only [a1, List.mem_singleton]
      refine ⟨fun z => ⟨?_, ?_⟩, ?_⟩
      · rintro rfl
        rw [e0]
        exact ⟨h0, rfl, rfl⟩
      · rintro ⟨hz, h1, h2⟩
        have hzl : z < (prQ m n i).length := by rw [h.2]; exact hz
        have e1 : (prQ m n i).getD z (0, 0) = (0, 0) := Prod.ext h1 h2
        have b1 := ((prQ_at hin.nodup hzl).2 e1).2
        have b2 := ((prQ_at hin.nodup (z := 0) (by omega)).2 e0).2
        omega
      · rintro p q rfl rfl
        exact hpre.subset (by simp [prQ])
    | succ k ih =>
      intro w hw
      obtain ⟨w', a, rfl⟩ : ∃ w' a, w = w' ++ [a] := by
        rcases List.eq_nil_or_concat w with e | ⟨w', a, e⟩
        · subst e; simp at hw
        · exact ⟨w', a, by simpa using e⟩
      have hw' : w'.length = k := by simpa using hw
      obtain ⟨i1, i2⟩ := ih w' hw'
      have hF : ∀ r ∈ afterL (prRows m n i) w', r < i := fun r hr => ((i1 r).1 hr).1
      have hl : ∀ p q, p ∈ afterL m.states (w' ++ [a]) → q ∈ afterL n.states (w' ++ [a]) → ∃ r, r ∈ afterL (prRows m n i) w' ∧ leads (stAt m.states ((prQ m n i).getD r (0, 0)).1) a p = true ∧ leads (stAt n.states ((prQ m n i).getD r (0, 0)).2) a q = true := by
        intro p q hp hq
        rw [afterL_app, nextL_mem] at hp hq
        unfold hitP at hp hq
        rw [List.any_eq_true] at hp hq
        obtain ⟨_, x, hx, hx2⟩ := hp
        obtain ⟨_, y, hy, hy2⟩ := hq
        have hxy := i2 x y hx hy
        have hlt := List.idxOf_lt_length_of_mem hxy
        have e9 := (prQ_at hin.nodup hlt).1 ⟨hxy, rfl⟩
        refine ⟨(prQ m n i).idxOf (x, y), (i1 _).2 ⟨Nat.lt_of_lt_of_eq hlt h.2, by rw [e9]; exact hx, by rw [e9]; exact hy⟩, by rw [e9]; exact hx2, by rw [e9]; exact hy2⟩
      have hmem : ∀ p q, p ∈ afterL m.states (w' ++ [a]) → q ∈ afterL n.states (w' ++ [a]) → (p, q) ∈ prQ m n i := by
        intro p q hp hq
        obtain ⟨r, hr, h1, h2⟩ := hl p q hp hq
        have hri := hF r hr
        have hrl := (h.1 r hri).1
        have hp0 := prQ_pre m n r (i - r)
        rw [show r + (i - r) = i by omega] at hp0
        have hp1 := prQ_pre m n (r + 1) (i - (r + 1))
        rw [show r + 1 + (i - (r + 1)) = i by omega, prQ_succ] at hp1
        have ep : (prQ m n i).getD r (0, 0) = pAt m n r := pre_getD hp0 hrl
        have hpp := (prQ_in hm hn r (fun j hj => h.1 j (by omega))).low _ (pAt_mem hrl)
        rw [ep] at h1 h2
        have hx := (jAt_leads hm hn hpp (q := (p, q))).2 ⟨h1, h2⟩
        exact hp1.subset ((prE_mem _ _ _).2 (.inr ⟨_, hx, rfl⟩))
      refine ⟨fun z => ?_, hmem⟩
      rw [afterL_app, nextL_mem, prRows_len]
      constructor
      · rintro ⟨hz, h1⟩
        obtain ⟨r, hr, h2, h3⟩ := (hit_prod hm hn h hF a hz).1 h1
        have hr2 := (i1 r).1 hr
        have hzl : z < (prQ m n i).length := by rw [h.2]; exact hz
        have hlow := hin.low _ ((prQ_at hin.nodup hzl).2 rfl).1
        refine ⟨hz, ?_, ?_⟩
        · rw [afterL_app, nextL_mem]
          refine ⟨hlow.1, ?_⟩
          unfold hitP
          exact List.any_eq_true.2 ⟨_, hr2.2.1, h2⟩
        · rw [afterL_app, nextL_mem]
          refine ⟨hlow.2, ?_⟩
          unfold hitP
          exact List.any_eq_true.2 ⟨_, hr2.2.2, h3⟩
      · rintro ⟨hz, h1, h2⟩
        obtain ⟨r, hr, h3, h4⟩ := hl _ _ h1 h2
        exact ⟨hz, (hit_prod hm hn h hF a hz).2 ⟨r, hr, h3, h4⟩⟩
  exact fun w => hmain w.length w rfl
theorem after_count (hm : sysB m = true) (hn : sysB n = true) (h : PrOk m n i) (w : List Int) : (afterL (prRows m n i) w).length = (afterL m.states w).length * (afterL n.states w).length := by
  obtain ⟨h1, h2⟩ := after_prod hm hn h w
  have hin := prQ_in hm hn i h.1
  have hi : 1 ≤ (prRows m n i).length := by
    rw [prRows_len]
    rcases Nat.eq_zero_or_pos i with q | q
    · subst q
      have := h.2
      simp [prQ] at this
    · exact q
  have so : ∀ {ss : List (List Edg)}, 1 ≤ ss.length → (afterL ss w).Pairwise (· < ·) := fun {ss} hs => by
    have := (afterL_facts hs w w.length (Nat.le_refl _)).2.2
    rwa [List.take_length] at this
  have nd : ∀ {l : List Nat}, l.Pairwise (· < ·) → l.Nodup := fun hl => hl.imp (fun h => Nat.ne_of_lt h)
  have sa := nd (so ((sysB_iff m).1 hm).2.1)
  have sb := nd (so ((sysB_iff n).1 hn).2.1)
  have sc := nd (so hi)
  generalize afterL (prRows m n i) w = c at *
  generalize afterL m.states w = a at *
  generalize afterL n.states w = b at *
  have len : ∀ l : List Nat, (l.flatMap fun p => b.map fun q => (p, q)).length = l.length * b.length := by
    intro l
    induction l with
    | nil => simp
    | cons x l ih =>
      rw [List.flatMap_cons, List.length_append, ih, List.length_map, List.length_cons, Nat.succ_mul]
      omega
  have n1 : (c.map fun z => (prQ m n i).getD z (0, 0)).Nodup := by
    unfold List.Nodup
    rw [List.pairwise_map]
    refine sc.imp_of_mem fun {x y} hx hy hxy e => hxy ?_
    have l1 : x < (prQ m n i).length := by rw [h.2]; exact ((h1 x).1 hx).1
    have l2 : y < (prQ m n i).length := by rw [h.2]; exact ((h1 y).1 hy).1
    have e1 := ((prQ_at hin.nodup l1).2 rfl).2
    have e2 := ((prQ_at hin.nodup l2).2 rfl).2
    rw [← e1, ← e2, e]
  have n2 : (a.flatMap fun p => b.map fun q => ((p, q) : P2)).Nodup := by
    clear h1 h2 len n1 sc
    induction a with
    | nil => exact List.nodup_nil
    | cons x a ih =>
      have hx := List.nodup_cons.1 sa
      rw [List.flatMap_cons, List.nodup_append]
      refine ⟨?_, ih hx.2, ?_⟩
      · unfold List.Nodup
        rw [List.pairwise_map]
        exact sb.imp fun {p q} hpq e => hpq (Prod.mk.inj e).2
      · intro u hu v hv e
        subst e
        obtain ⟨q, _, rfl⟩ := List.mem_map.1 hu
        obtain ⟨p, hp, hv⟩ := List.mem_flatMap.1 hv
        obtain ⟨q', _, e⟩ := List.mem_map.1 hv
        exact hx.1 ((Prod.mk.inj e).1 ▸ hp)
  have l1 := nodup_sub _ (a.flatMap fun p => b.map fun q => ((p, q) : P2)) n1 (fun x hx => by
    obtain ⟨z, hz, rfl⟩ := List.mem_map.1 hx
    have := (h1 z).1 hz
    exact List.mem_flatMap.2 ⟨_, this.2.1, List.mem_map.2 ⟨_, this.2.2, rfl⟩⟩)
  have l2 := nodup_sub _ (c.map fun z => (prQ m n i).getD z (0, 0)) n2 (fun x hx => by
    obtain ⟨p, hp, hx⟩ := List.mem_flatMap.1 hx
    obtain ⟨q, hq, rfl⟩ := List.mem_map.1 hx
    have hm2 := h2 p q hp hq
    have hlt := List.idxOf_lt_length_of_mem hm2
    have e9 := (prQ_at hin.nodup hlt).1 ⟨hm2, rfl⟩
    exact List.mem_map.2 ⟨_, (h1 _).2 ⟨Nat.lt_of_lt_of_eq hlt h.2, by rw [e9]; exact hp, by rw [e9]; exact hq⟩, e9⟩)
  rw [len, List.length_map] at l1 l2
  omega
end
end Go.Proofs.YtgnbkepdbdgkdaaGreatDoor
/- Contracts of the functions of package strings that package act calls, at this seat's numbers. -/
namespace Go.Proofs
open Go.Shelf
def Tryz.lays189_ren : Go.Shelf.Ren := ⟨fun | 189 => 59 | 125 => 98 | 257 => 97 | 128 => 133 | 129 => 134 | 294 => 124 | 295 => 125 | 296 => 126 | 297 => 127 | 298 => 128 | 299 => 129 | 216 => 130 | 300 => 131 | 301 => 132 | 328 => 165 | 329 => 166 | 330 => 167 | 331 => 168 | 332 => 169 | 215 => 164 | 343 => 192 | n => n, fun | 28 => 28 | 3 => 3 | 46 => 103 | 0 => 0 | 51 => 220 | 53 => 222 | 4 => 4 | 183 => 214 | 182 => 213 | 131 => 163 | 5 => 5 | 9 => 9 | 218 => 243 | 222 => 247 | 228 => 265 | 229 => 266 | n => n, fun | n => n⟩
theorem Tryz.lays189 : Go.Proofs.Lays.n189 Tryz.prog Tryz.lays189_ren := {
  mixed := by kernel_rfl
  f125 := Tryz.func98.trans (congrArg some (by kernel_rfl))
  f128 := Tryz.func133.trans (congrArg some (by kernel_rfl))
  f129 := Tryz.func134.trans (congrArg some (by kernel_rfl))
  f189 := Tryz.func59.trans (congrArg some (by kernel_rfl))
  f215 := Tryz.func164.trans (congrArg some (by kernel_rfl))
  f216 := Tryz.func130.trans (congrArg some (by kernel_rfl))
  f257 := Tryz.func97.trans (congrArg some (by kernel_rfl))
  f294 := Tryz.func124.trans (congrArg some (by kernel_rfl))
  f295 := Tryz.func125.trans (congrArg some (by kernel_rfl))
  f296 := Tryz.func126.trans (congrArg some (by kernel_rfl))
  f297 := Tryz.func127.trans (congrArg some (by kernel_rfl))
  f298 := Tryz.func128.trans (congrArg some (by kernel_rfl))
  f299 := Tryz.func129.trans (congrArg some (by kernel_rfl))
  f300 := Tryz.func131.trans (congrArg some (by kernel_rfl))
  f301 := Tryz.func132.trans (congrArg some (by kernel_rfl))
  f328 := Tryz.func165.trans (congrArg some (by kernel_rfl))
  f329 := Tryz.func166.trans (congrArg some (by kernel_rfl))
  f330 := Tryz.func167.trans (congrArg some (by kernel_rfl))
  f331 := Tryz.func168.trans (congrArg some (by kernel_rfl))
  f332 := Tryz.func169.trans (congrArg some (by kernel_rfl))
  f343 := Tryz.func192.trans (congrArg some (by kernel_rfl))
  t0 := Tryz.underlying0
  a0 := Tryz.isAgg0
  z0 := Tryz.sizeOf0
  v0 := Tryz.zeroValue0
  t3 := Tryz.underlying3
  a3 := Tryz.isAgg3
  z3 := Tryz.sizeOf3
  v3 := Tryz.zeroValue3
  t4 := Tryz.underlying4
  a4 := Tryz.isAgg4
  z4 := Tryz.sizeOf4
  v4 := Tryz.zeroValue4
  t5 := Tryz.underlying5
  a5 := Tryz.isAgg5
  z5 := Tryz.sizeOf5
  v5 := Tryz.zeroValue5
  t9 := Tryz.underlying9
  a9 := Tryz.isAgg9
  z9 := Tryz.sizeOf9
  v9 := Tryz.zeroValue9
  t28 := Tryz.underlying28
  a28 := Tryz.isAgg28
  z28 := Tryz.sizeOf28
  v28 := Tryz.zeroValue28
  t46 := Tryz.underlying103
  a46 := Tryz.isAgg103
  z46 := Tryz.sizeOf103
  v46 := Tryz.zeroValue103
  t51 := Tryz.underlying220
  a51 := Tryz.isAgg220
  z51 := Tryz.sizeOf220
  v51 := Tryz.zeroValue220
  t53 := Tryz.underlying222
  a53 := Tryz.isAgg222
  z53 := Tryz.sizeOf222
  v53 := Tryz.zeroValue222
  t131 := Tryz.underlying163
  a131 := Tryz.isAgg163
  z131 := Tryz.sizeOf163
  v131 := Tryz.zeroValue163
  t182 := Tryz.underlying213
  a182 := Tryz.isAgg213
  z182 := Tryz.sizeOf213
  v182 := Tryz.zeroValue213
  t183 := Tryz.underlying214
  a183 := Tryz.isAgg214
  z183 := Tryz.sizeOf214
  v183 := Tryz.zeroValue214
  t218 := Tryz.underlying243
  a218 := Tryz.isAgg243
  z218 := Tryz.sizeOf243
  v218 := Tryz.zeroValue243
  t222 := Tryz.underlying247
  a222 := Tryz.isAgg247
  z222 := Tryz.sizeOf247
  v222 := Tryz.zeroValue247
  t228 := Tryz.underlying265
  a228 := Tryz.isAgg265
  z228 := Tryz.sizeOf265
  v228 := Tryz.zeroValue265
  t229 := Tryz.underlying266
  a229 := Tryz.isAgg266
  z229 := Tryz.sizeOf266
  v229 := Tryz.zeroValue266 }
open Go.Sort Go.RowKit in
theorem Tryz.slices_Sort_int (blk off cap : Nat) (zs : List Int) (w : World) (hH : Holds (Value.int .i64) w blk off zs.toArray) (hblk : blk < w.heap.size) (hsz : zs.length < 4611686018427387904) :
    Calls Tryz.prog 59 #[.slice (some ⟨blk, off, none⟩) zs.length cap] w fun e w' =>
      e = .returned (.tuple #[]) ∧ ∃ n os, w' = grow (putRow (Value.int .i64) (Sort.ahead w n) blk off (zs.mergeSort fun x y => decide (x ≤ y)).toArray) os := Any.slices_Sort_int Tryz.lays189 blk off cap zs w hH hblk hsz
open Go.RowKit Go.Sort in
theorem Tryz.slices_Sort_int_none (p : Option Addr) (cap : Nat) (w : World) :
    Calls Tryz.prog 59 #[.slice p 0 cap] w fun e w' => e = .returned (.tuple #[]) ∧ w' = w := Any.slices_Sort_int_none Tryz.lays189 p cap w
end Go.Proofs
