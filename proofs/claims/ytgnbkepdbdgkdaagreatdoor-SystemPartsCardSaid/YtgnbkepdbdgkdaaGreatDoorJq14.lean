/- Texts joined: SpStr, SpLine. -/
import Derived.Test.YtgnbkepdbdgkdaaGreatDoorJq10
import Derived.Test.YtgnbkepdbdgkdaaGreatDoorJq07
import Derived.Test.YtgnbkepdbdgkdaaGreatDoorJq05
import Derived.Test.YtgnbkepdbdgkdaaGreatDoorJq13
import Derived.Test.YtgnbkepdbdgkdaaGreatDoorJq09
import Derived.Test.YtgnbkepdbdgkdaaGreatDoorJq11
import Derived.Deep.RegionHeld3
/- Plain facts: the string of a specification, and how it is read back; nothing here is about a program. -/
namespace Go.Proofs.YtgnbkepdbdgkdaaGreatDoor.Pl
open Go Go.Lib

/-! ### strings of objects, whatever their kind -/
def blanks (ws : List (List UInt8)) : List UInt8 := ws.flatMap fun x => 32 :: x
theorem blanks_app (a b : List (List UInt8)) : blanks (a ++ b) = blanks a ++ blanks b := by simp [blanks]
def headL (kw : List UInt8) (acts : List ByteArray) : List UInt8 := kw ++ acts.flatMap (fun a => [32] ++ a.data.toList)
theorem headL_join (kw : List UInt8) (acts : List ByteArray) : headL kw acts = join (kw :: acts.map (·.data.toList)) [32] := by
  unfold headL
  rw [join_flat, List.flatMap_map]
  rfl
def lineK (i : Nat) (w : List (List UInt8)) : List UInt8 := decDigits i ++ [58] ++ blanks w
theorem lineK_join (i : Nat) (w : List (List UInt8)) : lineK i w = join ((decDigits i ++ [58]) :: w) [32] := by
  unfold lineK blanks
  rw [join_flat]
/-- the string of the first k states -/
def objK (kw : List UInt8) (acts : List ByteArray) (ws : List (List (List UInt8))) (k : Nat) : List UInt8 := headL kw acts ++ [10] ++ (List.range k).flatMap (fun i => lineK i (ws.getD i []) ++ [10])
def objS (kw : List UInt8) (acts : List ByteArray) (ws : List (List (List UInt8))) : List UInt8 := objK kw acts ws ws.length
theorem objK_next (kw : List UInt8) (acts : List ByteArray) (ws : List (List (List UInt8))) (k : Nat) : objK kw acts ws (k + 1) = objK kw acts ws k ++ (lineK k (ws.getD k []) ++ [10]) := by
  unfold objK
  rw [List.range_succ, List.flatMap_append, List.flatMap_singleton, ← List.append_assoc]
def linesK (kw : List UInt8) (acts : List ByteArray) (ws : List (List (List UInt8))) : List (List UInt8) := headL kw acts :: (List.range ws.length).map fun i => lineK i (ws.getD i [])
theorem shift_nl : ∀ (l : List (List UInt8)) (x : List UInt8), x ++ [10] ++ l.flatMap (fun y => y ++ [10]) = x ++ l.flatMap (fun y => 10 :: y) ++ [10]
  | [], x => by simp
  | y :: l, x => by
    have := shift_nl l (x ++ [10] ++ y)
    simp only [List.flatMap_cons, List.append_assoc, List.cons_append, List.nil_append] at this ⊢
    rw [this]
theorem objS_lines (kw : List UInt8) (acts : List ByteArray) (ws : List (List (List UInt8))) : objS kw acts ws = join (linesK kw acts ws) [10] ++ [10] := by
  unfold objS objK linesK
  rw [join_flat, ← shift_nl, List.flatMap_map]
theorem mkd_map (acts : List ByteArray) : (acts.map (·.data.toList)).map mk = acts := by
  rw [List.map_map]
  have : (mk ∘ fun x : ByteArray => x.data.toList) = id := by funext x; exact mk_of x
  rw [this, List.map_id]
theorem head_noK {kw : List UInt8} {acts : List ByteArray} (ha : actsB acts = true) (c : UInt8) (hc : nmB (c.toNat : Int) = false) (hs : c ∉ kw) : ∀ x ∈ kw :: acts.map (·.data.toList), c ∉ x := by
  intro x hx
  rcases List.mem_cons.1 hx with rfl | hx
  · exact hs
  · obtain ⟨a, h1, rfl⟩ := List.mem_map.1 hx
    obtain ⟨k, hk, rfl⟩ := List.getElem_of_mem h1
    have := acts_name ha hk
    unfold at_ at this
    rw [List.getD_eq_getElem?_getD, List.getElem?_eq_getElem hk] at this
    exact name_no this c hc
theorem num_no (c : UInt8) (h : c.toNat < 48 ∨ 57 < c.toNat) (h58 : c ≠ 58) (i : Nat) : c ∉ decDigits i ++ [58] := fun hm => by
  rcases List.mem_append.1 hm with h1 | h1
  · exact dec_no c h i h1
  · exact h58 (by simpa using h1)
theorem head_backK {kw : List UInt8} {acts : List ByteArray} (ha : actsB acts = true) (h32 : 32 ∉ kw) : headK kw (headL kw acts) = some acts := by
  unfold headK
  rw [headL_join, sp_join 32 _ (by simp) (head_noK ha 32 (by decide) h32)]
  simp only [mkd_map, ha, and_self, if_true]
theorem row_backK {R : Type} {rp : List ByteArray → List (List UInt8) → Option R} {acts : List ByteArray} {i : Nat} {w : List (List UInt8)} (hw : ∀ x ∈ w, (32 : UInt8) ∉ x) : rowK rp acts i (lineK i w) = rp acts w := by
  unfold rowK
  rw [lineK_join, sp_join 32 _ (by simp) (fun x hx => by
    rcases List.mem_cons.1 hx with rfl | hx
    · exact num_no 32 (by decide) (by decide) i
    · exact hw x hx)]
  show (if decDigits i ++ [58] = decDigits i ++ [58] then rp acts w else none) = _
  rw [if_pos rfl]
theorem join_noK (xs : List (List UInt8)) (hxs : ∀ x ∈ xs, (10 : UInt8) ∉ x) : (10 : UInt8) ∉ join xs [32] := by
  cases xs with
  | nil => simp [join_nil]
  | cons x r =>
    rw [join_flat]
    intro hm
    rcases List.mem_append.1 hm with h1 | h1
    · exact hxs x (by simp) h1
    · obtain ⟨y, hy, h2⟩ := List.mem_flatMap.1 h1
      rcases List.mem_cons.1 h2 with h3 | h3
      · cases h3
      · exact hxs y (by simp [hy]) h3
theorem lines_noK {kw : List UInt8} {acts : List ByteArray} {ws : List (List (List UInt8))} (ha : actsB acts = true) (hkw : (10 : UInt8) ∉ kw) (hw : ∀ w ∈ ws, ∀ x ∈ w, (10 : UInt8) ∉ x) : ∀ x ∈ linesK kw acts ws, (10 : UInt8) ∉ x := by
  intro x hx
  unfold linesK at hx
  rcases List.mem_cons.1 hx with rfl | hx
  · rw [headL_join]
    exact join_noK _ (head_noK ha 10 (by decide) hkw)
  · obtain ⟨i, hi, rfl⟩ := List.mem_map.1 hx
    rw [List.mem_range] at hi
    rw [lineK_join]
    refine join_noK _ (fun y hy => ?_)
    rcases List.mem_cons.1 hy with rfl | hy
    · exact num_no 10 (by decide) (by decide) i
    · rw [List.getD_eq_getElem?_getD, List.getElem?_eq_getElem hi] at hy
      exact hw _ (List.getElem_mem hi) y hy
theorem lines_lastK {kw : List UInt8} {acts : List ByteArray} {ws : List (List (List UInt8))} (hk : kw ≠ []) (hno : ∀ x ∈ linesK kw acts ws, (10 : UInt8) ∉ x) : ∃ y z, join (linesK kw acts ws) [10] = y ++ z ∧ z ≠ [] ∧ (10 : UInt8) ∉ z := by
  have hne : ∀ x ∈ linesK kw acts ws, x ≠ [] := by
    intro x hx
    unfold linesK at hx
    rcases List.mem_cons.1 hx with rfl | hx
    · unfold headL; intro e; exact hk (List.append_eq_nil_iff.1 e).1
    · obtain ⟨i, _, rfl⟩ := List.mem_map.1 hx
      simp [lineK]
  cases hl : linesK kw acts ws with
  | nil => simp [linesK] at hl
  | cons x r =>
    rw [hl] at hno hne
    rw [join_flat]
    rcases List.eq_nil_or_concat r with rfl | ⟨r', z, rfl⟩
    · exact ⟨[], x, by simp, hne x (by simp), hno x (by simp)⟩
    · refine ⟨x ++ r'.flatMap (fun y => 10 :: y) ++ [10], z, by simp, hne z (by simp), hno z (by simp)⟩
/-- what is printed is read back -/
theorem textK_join {R : Type} {kw : List UInt8} {rp : List ByteArray → List (List UInt8) → Option R} {acts : List ByteArray} {ws : List (List (List UInt8))} {ss : List R} {s : List UInt8} (ha : actsB acts = true) (h32 : (32 : UInt8) ∉ kw) (h10 : (10 : UInt8) ∉ kw)
    (hw : ∀ w ∈ ws, ∀ x ∈ w, (32 : UInt8) ∉ x ∧ (10 : UInt8) ∉ x) (hl : ss.length = ws.length) (hr : ∀ i, i < ws.length → ∃ x, ss[i]? = some x ∧ rp acts (ws.getD i []) = some x)
    (hs : s.length ≤ 60000) (hc : cut1 s = join (linesK kw acts ws) [10]) : textK kw rp s = (acts, ss, 0) := by
  unfold textK
  rw [if_neg (by omega), hc, sp_join 10 _ (by simp [linesK]) (lines_noK ha h10 (fun w h x hx => (hw w h x hx).2))]
  show (match headK kw (headL kw acts) with | none => ([], [], (11 : Int)) | some acts => _) = _
  rw [head_backK ha h32]
  show (match rowsK rp acts 0 ((List.range ws.length).map fun i => lineK i (ws.getD i [])) with | none => ([], [], (11 : Int)) | some ss => (acts, ss, 0)) = _
  rw [rowsK_good _ 0 ss (by simp [hl]) (fun k hk => by
    rw [List.length_map, List.length_range] at hk
    obtain ⟨x, h1, h2⟩ := hr k hk
    refine ⟨x, h1, ?_⟩
    have e : ((List.range ws.length).map fun i => lineK i (ws.getD i [])).getD k [] = lineK k (ws.getD k []) := by
      rw [List.getD_eq_getElem?_getD, List.getElem?_map, List.getElem?_range hk]; rfl
    rw [e, Nat.zero_add, row_backK, h2]
    intro y hy
    rw [List.getD_eq_getElem?_getD, List.getElem?_eq_getElem hk] at hy
    exact (hw _ (List.getElem_mem hk) y hy).1)]
theorem textK_back {R : Type} {kw : List UInt8} {rp : List ByteArray → List (List UInt8) → Option R} {acts : List ByteArray} {ws : List (List (List UInt8))} {ss : List R} (ha : actsB acts = true) (hk : kw ≠ []) (h32 : (32 : UInt8) ∉ kw) (h10 : (10 : UInt8) ∉ kw)
    (hw : ∀ w ∈ ws, ∀ x ∈ w, (32 : UInt8) ∉ x ∧ (10 : UInt8) ∉ x) (hl : ss.length = ws.length) (hr : ∀ i, i < ws.length → ∃ x, ss[i]? = some x ∧ rp acts (ws.getD i []) = some x)
    (hs : (objS kw acts ws).length ≤ 60000) : textK kw rp (objS kw acts ws) = (acts, ss, 0) ∧ textK kw rp ((objS kw acts ws).take ((objS kw acts ws).length - 1)) = (acts, ss, 0) := by
  refine ⟨textK_join ha h32 h10 hw hl hr hs (by rw [objS_lines, trim_snoc]), ?_⟩
  obtain ⟨y, z, e, hz, hno⟩ := lines_lastK (acts := acts) (ws := ws) hk (lines_noK ha h10 (fun w h x hx => (hw w h x hx).2))
  have e2 : (objS kw acts ws).take ((objS kw acts ws).length - 1) = join (linesK kw acts ws) [10] := by rw [objS_lines]; simp
  rw [e2]
  rw [objS_lines] at hs
  refine textK_join ha h32 h10 hw hl hr (by simp at hs; omega) ?_
  rw [e, cut_other y hz hno]

/-! ### specifications -/
def bSpec : List UInt8 := [115, 112, 101, 99]
def bArrow : List UInt8 := [45, 62]
def accW (acts : List ByteArray) (l : List Int) : List (List UInt8) := l.map fun x => setS acts x.toNat
/-- an action that leads on, and where -/
def toW (acts : List ByteArray) (next : List Int) (a : Nat) : List (List UInt8) := if next.getD a 0 = -1 then [] else [(at_ acts a).data.toList, decDigits (next.getD a 0).toNat]
/-- the first j actions that lead on -/
def nxW (acts : List ByteArray) (next : List Int) (j : Nat) : List (List UInt8) := (List.range j).flatMap (toW acts next)
theorem nxW_next (acts : List ByteArray) (next : List Int) (j : Nat) : nxW acts next (j + 1) = nxW acts next j ++ toW acts next j := by
  unfold nxW
  rw [List.range_succ, List.flatMap_append, List.flatMap_singleton]
def steW (acts : List ByteArray) (t : Ste) : List (List UInt8) := accW acts t.1 ++ bArrow :: nxW acts t.2 t.2.length
def strSp (s : Spc) : List UInt8 := objS bSpec s.acts (s.states.map (steW s.acts))
def noSpc : Spc := ⟨[], []⟩
/-- what is read so far of a state -/
structure Rd where
  part : Nat
  last : Int
  acc : List Int
  next : List Int
def stepR (acts : List ByteArray) (r : Rd) (x : List UInt8) : Option Rd :=
  if r.part = 0 then (if x = bArrow then some ⟨1, r.last, r.acc, r.next⟩ else match parseO acts x with | none => none | some y => some ⟨0, r.last, r.acc ++ [(y : Int)], r.next⟩)
  else if r.part = 1 then (if idxOfS acts (mk x) < 0 ∨ idxOfS acts (mk x) ≤ r.last then none else some ⟨2, idxOfS acts (mk x), r.acc, r.next⟩)
  else match numV x with | none => none | some t => some ⟨1, r.last, r.acc, r.next.set r.last.toNat t⟩
def foldR (acts : List ByteArray) (r : Option Rd) (ws : List (List UInt8)) : Option Rd := ws.foldl (fun q x => q.bind fun r => stepR acts r x) r
theorem foldR_cons (acts : List ByteArray) (r : Rd) (x : List UInt8) (ws : List (List UInt8)) : foldR acts (some r) (x :: ws) = foldR acts (stepR acts r x) ws := rfl
theorem foldR_app (acts : List ByteArray) (r : Option Rd) (a b : List (List UInt8)) : foldR acts r (a ++ b) = foldR acts (foldR acts r a) b := by simp [foldR]
theorem foldR_none (acts : List ByteArray) : ∀ ws : List (List UInt8), foldR acts none ws = none
  | [] => rfl
  | _ :: ws => foldR_none acts ws
def rd0 (acts : List ByteArray) : Rd := ⟨0, -1, [], List.replicate acts.length (-1)⟩
def rdO (q : Option Rd) : Option Ste := match q with | none => none | some r => if r.part = 1 then some (r.acc, r.next) else none
/-- the words of a state behind its number -/
def steO (acts : List ByteArray) (ws : List (List UInt8)) : Option Ste := rdO (foldR acts (some (rd0 acts)) ws)
/-- what a string is read as -/
def parseSp (s : List UInt8) : Spc × Int :=
  if (textK bSpec steO s).2.2 = 0 then (if spcB ⟨(textK bSpec steO s).1, (textK bSpec steO s).2.1⟩ = true then (⟨(textK bSpec steO s).1, (textK bSpec steO s).2.1⟩, 0) else (noSpc, 30)) else (noSpc, (textK bSpec steO s).2.2)
theorem parseSp_bad {s : List UInt8} {c : Int} (h : textK bSpec steO s = ([], [], c)) (hc : c ≠ 0) : parseSp s = (noSpc, c) := by
  unfold parseSp; rw [h, if_neg hc]
theorem parseSp_no {s : List UInt8} {acts : List ByteArray} {ss : List Ste} (h : textK bSpec steO s = (acts, ss, 0)) (hc : spcB ⟨acts, ss⟩ = false) : parseSp s = (noSpc, 30) := by
  unfold parseSp; rw [h, if_pos rfl, if_neg (by rw [hc]; decide)]
theorem parseSp_yes {s : List UInt8} {acts : List ByteArray} {ss : List Ste} (h : textK bSpec steO s = (acts, ss, 0)) (hc : spcB ⟨acts, ss⟩ = true) : parseSp s = (⟨acts, ss⟩, 0) := by
  unfold parseSp; rw [h, if_pos rfl, if_pos hc]
theorem setS_arrow (acts : List ByteArray) (y : Nat) : setS acts y ≠ bArrow := by
  intro e
  have := congrArg List.head? e
  simp [setS, bArrow] at this
theorem fold_acc {acts : List ByteArray} (ha : actsB acts = true) : ∀ (l : List Int) (acc nx : List Int) (p : Int), (∀ x ∈ l, 0 ≤ x ∧ x.toNat < 2 ^ acts.length) →
    foldR acts (some ⟨0, p, acc, nx⟩) (accW acts l) = some ⟨0, p, acc ++ l, nx⟩
  | [], acc, nx, p, _ => by simp [accW, foldR]
  | x :: l, acc, nx, p, h => by
    have h1 := h x (by simp)
    have ih := fold_acc ha l (acc ++ [x]) nx p (fun y hy => h y (by simp [hy]))
    have e : accW acts (x :: l) = setS acts x.toNat :: accW acts l := rfl
    have hp : parseO acts (setS acts x.toNat) = some x.toNat := (parse_iff ha _ _).2 ⟨h1.2, rfl⟩
    have hs : stepR acts ⟨0, p, acc, nx⟩ (setS acts x.toNat) = some ⟨0, p, acc ++ [x], nx⟩ := by
      unfold stepR
      rw [if_pos rfl, if_neg (setS_arrow _ _), hp]
      show some (Rd.mk 0 p (acc ++ [(x.toNat : Int)]) nx) = _
      rw [Int.toNat_of_nonneg h1.1]
    rw [e, foldR_cons, hs, ih]
    simp
theorem fold_next {acts : List ByteArray} (ha : actsB acts = true) {next : List Int} (hn : next.length = acts.length) (hr : ∀ j, j < next.length → -1 ≤ next.getD j 0 ∧ next.getD j 0 ≤ 9223372036854775807) (acc : List Int) : ∀ j, j ≤ next.length →
    ∃ p, p < (j : Int) ∧ foldR acts (some ⟨1, -1, acc, List.replicate acts.length (-1)⟩) (nxW acts next j) = some ⟨1, p, acc, next.take j ++ List.replicate (acts.length - j) (-1)⟩
  | 0, _ => ⟨-1, by omega, by simp [nxW, foldR]⟩
  | j + 1, h => by
    obtain ⟨p, hp, ih⟩ := fold_next ha hn hr acc j (by omega)
    have hj := hr j (by omega)
    have et : next.take (j + 1) = next.take j ++ [next.getD j 0] := take_next next j 0 (by omega)
    have er : List.replicate (acts.length - j) (-1 : Int) = -1 :: List.replicate (acts.length - (j + 1)) (-1) := by
      rw [show acts.length - j = (acts.length - (j + 1)) + 1 by omega, List.replicate_succ]
    rw [nxW_next, foldR_app, ih]
    unfold toW
    by_cases e : next.getD j 0 = -1
    · rw [if_pos e]
      refine ⟨p, by omega, ?_⟩
      show some _ = some _
      rw [et, er, e]
      simp
    · rw [if_neg e]
      refine ⟨j, by omega, ?_⟩
      have hi : idxOfS acts (mk (at_ acts j).data.toList) = j := by rw [mk_of]; exact acts_idx ha (by omega)
      have h1 : stepR acts ⟨1, p, acc, next.take j ++ List.replicate (acts.length - j) (-1)⟩ (at_ acts j).data.toList = some ⟨2, j, acc, next.take j ++ List.replicate (acts.length - j) (-1)⟩ := by
        unfold stepR
        rw [if_neg (show ¬ (1 : Nat) = 0 by decide), if_pos rfl, hi, if_neg (show ¬ ((j : Int) < 0 ∨ (j : Int) ≤ p) by omega)]
      have h2 : stepR acts ⟨2, j, acc, next.take j ++ List.replicate (acts.length - j) (-1)⟩ (decDigits (next.getD j 0).toNat) = some ⟨1, j, acc, next.take (j + 1) ++ List.replicate (acts.length - (j + 1)) (-1)⟩ := by
        unfold stepR
        rw [if_neg (show ¬ (2 : Nat) = 0 by decide), if_neg (show ¬ (2 : Nat) = 1 by decide), numV_dec _ (by omega)]
        show some (Rd.mk 1 j acc ((next.take j ++ List.replicate (acts.length - j) (-1)).set j (((next.getD j 0).toNat : Nat) : Int))) = _
        rw [Int.toNat_of_nonneg (by omega), et, er, List.set_append_right _ _ (by rw [List.length_take]; omega)]
        rw [List.length_take, Nat.min_eq_left (by omega), Nat.sub_self, List.set_cons_zero]
        simp
      rw [foldR_cons, h1, foldR_cons, h2]
      rfl
theorem ste_back {acts : List ByteArray} (ha : actsB acts = true) {t : Ste} (hn : t.2.length = acts.length) (hx : ∀ x ∈ t.1, 0 ≤ x ∧ x.toNat < 2 ^ acts.length) (hr : ∀ j, j < t.2.length → -1 ≤ t.2.getD j 0 ∧ t.2.getD j 0 ≤ 9223372036854775807) : steO acts (steW acts t) = some t := by
  unfold steO steW rd0
  rw [foldR_app, fold_acc ha t.1 [] _ (-1) hx, List.nil_append, foldR_cons]
  have h1 : stepR acts ⟨0, -1, t.1, List.replicate acts.length (-1)⟩ bArrow = some ⟨1, -1, t.1, List.replicate acts.length (-1)⟩ := by
    unfold stepR
    rw [if_pos rfl, if_pos rfl]
  obtain ⟨p, _, h2⟩ := fold_next ha hn hr t.1 t.2.length (Nat.le_refl _)
  rw [h1, h2, List.take_length, hn, Nat.sub_self]
  simp [rdO]
theorem lt_pow_of_bits {x n : Nat} (hx : x < 2 ^ 64) (h : ∀ a, a < 64 → x.testBit a = true → a < n) : x < 2 ^ n := by
  refine Nat.lt_pow_two_of_testBit x (fun i hi => ?_)
  rcases Nat.lt_or_ge i 64 with h1 | h1
  · rw [Bool.eq_false_iff]
    intro hb
    have := h i h1 hb
    omega
  · exact Nat.testBit_lt_two_pow (Nat.lt_of_lt_of_le hx (Nat.pow_le_pow_right (by decide) h1))
/-- what is known of a state of a valid specification -/
theorem ste_facts {na ns : Nat} {t : Ste} (h : steB na ns t = true) (hx : ∀ x ∈ t.1, x ≤ 9223372036854775807) :
    t.2.length = na ∧ (∀ x ∈ t.1, 0 ≤ x ∧ x.toNat < 2 ^ na) ∧ (∀ j, j < t.2.length → -1 ≤ t.2.getD j 0 ∧ t.2.getD j 0 < ns) := by
  unfold steB at h
  rw [Bool.and_eq_true, nextB_iff, accB_iff] at h
  obtain ⟨⟨h1, h2⟩, h3⟩ := h
  refine ⟨h1, fun x hm => ?_, fun j hj => (okNext_iff _ _).1 (h2 j hj)⟩
  obtain ⟨i, hi, e⟩ := List.getElem_of_mem hm
  have h4 := (h3 i hi).1
  rw [List.getD_eq_getElem?_getD, List.getElem?_eq_getElem hi, Option.getD_some, e, okSet_iff] at h4
  refine ⟨h4.1, lt_pow_of_bits (by have := hx x hm; omega) (fun a ha hb => ?_)⟩
  have := h4.2 a ha hb
  unfold leadP at this
  rw [Bool.and_eq_true, decide_eq_true_eq] at this
  omega
theorem set_no {acts : List ByteArray} (ha : actsB acts = true) (y : Nat) (hy : y < 2 ^ acts.length) (c : UInt8) (hc : nmB (c.toNat : Int) = false) (h1 : c ≠ 123) (h2 : c ≠ 125) (h3 : c ≠ 44) : c ∉ setS acts y := by
  unfold setS
  intro hm
  rw [List.mem_append, List.mem_append] at hm
  rcases hm with (hm | hm) | hm
  · exact h1 (by simpa using hm)
  · have hall : ∀ x ∈ (memL y).map fun k => (at_ acts k).data.toList, c ∉ x := fun x hx => by
      obtain ⟨k, hk, rfl⟩ := List.mem_map.1 hx
      exact name_no (acts_name ha ((memL_inc hy).1 k hk).2) c hc
    revert hm hall
    generalize (memL y).map (fun k => (at_ acts k).data.toList) = xs
    intro hm hall
    cases xs with
    | nil => simp [join_nil] at hm
    | cons x r =>
      rw [join_flat] at hm
      rcases List.mem_append.1 hm with h4 | h4
      · exact hall x (by simp) h4
      · obtain ⟨z, hz, h5⟩ := List.mem_flatMap.1 h4
        rcases List.mem_cons.1 h5 with h6 | h6
        · exact h3 h6
        · exact hall z (by simp [hz]) h6
  · exact h2 (by simpa using hm)
theorem steW_no {acts : List ByteArray} (ha : actsB acts = true) {t : Ste} (hn : t.2.length = acts.length) (hx : ∀ x ∈ t.1, 0 ≤ x ∧ x.toNat < 2 ^ acts.length) (c : UInt8) (hc : nmB (c.toNat : Int) = false) (h1 : c ≠ 123) (h2 : c ≠ 125) (h3 : c ≠ 44) (h4 : c ≠ 62) (h5 : c.toNat < 48 ∨ 57 < c.toNat) :
    ∀ x ∈ steW acts t, c ∉ x := by
  intro x hm
  unfold steW at hm
  rcases List.mem_append.1 hm with hm | hm
  · obtain ⟨y, hy, rfl⟩ := List.mem_map.1 hm
    exact set_no ha _ (hx y hy).2 c hc h1 h2 h3
  · rcases List.mem_cons.1 hm with rfl | hm
    · intro h
      rcases List.mem_cons.1 h with h | h
      · subst h; revert hc; decide
      · exact h4 (by simpa using h)
    · obtain ⟨a, ha1, h⟩ := List.mem_flatMap.1 hm
      rw [List.mem_range] at ha1
      unfold toW at h
      split at h
      · cases h
      · rcases List.mem_cons.1 h with rfl | h
        · exact name_no (acts_name ha (by omega)) c hc
        · rw [List.mem_singleton] at h
          rw [h]
          exact dec_no c h5 _
/-- P3.6: what is printed is read back. -/
theorem parse_strSp {s : Spc} (h : spcB s = true) (hx : ∀ i, i < s.states.length → ∀ x ∈ (teAt s.states i).1, x ≤ 9223372036854775807) (hs : (strSp s).length ≤ 60000) :
    parseSp (strSp s) = (s, 0) ∧ parseSp ((strSp s).take ((strSp s).length - 1)) = (s, 0) := by
  obtain ⟨ha, h1, h5, he⟩ := (spcB_iff s).1 h
  have hst : ∀ i (hi : i < s.states.length), teAt s.states i = s.states[i] := fun i hi => by
    unfold teAt; rw [List.getD_eq_getElem?_getD, List.getElem?_eq_getElem hi]; rfl
  have hf := fun i hi => ste_facts (he i hi) (hx i hi)
  have hb := textK_back (kw := bSpec) (rp := steO) (acts := s.acts) (ws := s.states.map (steW s.acts)) (ss := s.states) ha (by decide) (by decide) (by decide)
    (fun w hw x hxw => by
      obtain ⟨t, ht, rfl⟩ := List.mem_map.1 hw
      obtain ⟨i, hi, e⟩ := List.getElem_of_mem ht
      rw [← hst i hi] at e
      subst e
      obtain ⟨f1, f2, f3⟩ := hf i hi
      exact ⟨steW_no ha f1 f2 32 (by decide) (by decide) (by decide) (by decide) (by decide) (by decide) x hxw, steW_no ha f1 f2 10 (by decide) (by decide) (by decide) (by decide) (by decide) (by decide) x hxw⟩)
    (by simp) (fun i hi => by
      rw [List.length_map] at hi
      obtain ⟨f1, f2, f3⟩ := hf i hi
      refine ⟨teAt s.states i, by rw [hst i hi]; exact List.getElem?_eq_getElem hi, ?_⟩
      rw [List.getD_eq_getElem?_getD, List.getElem?_map, List.getElem?_eq_getElem hi, Option.map_some, Option.getD_some, ← hst i hi]
      exact ste_back ha f1 f2 (fun j hj => by have := f3 j hj; omega))
    hs
  exact ⟨parseSp_yes hb.1 h, parseSp_yes hb.2 h⟩
end Go.Proofs.YtgnbkepdbdgkdaaGreatDoor.Pl
/- The sets and the actions of a state, as spec.String writes them behind the state's number. -/
namespace Go.Proofs.YtgnbkepdbdgkdaaGreatDoor
open Go.RowKit Pl

/-! ### how long they are -/
theorem blanks_len (M : Nat) : ∀ ws : List (List UInt8), (∀ x ∈ ws, x.length ≤ M) → (blanks ws).length ≤ (M + 1) * ws.length
  | [], _ => by simp [blanks]
  | x :: ws, h => by
    have h1 := h x (by simp)
    have h2 := blanks_len M ws (fun y hy => h y (by simp [hy]))
    unfold blanks at h2 ⊢
    rw [List.flatMap_cons, List.length_append, List.length_cons, List.length_cons, Nat.mul_succ]
    omega
theorem setSp_len {acts : List ByteArray} (ha : actsB acts = true) {y : Nat} (hy : y < 2 ^ acts.length) : (setS acts y).length ≤ 200 := by
  have h8 := ((actsB_iff acts).1 ha).1
  have h1 := join_bound 20 ((memL y).map fun k => (at_ acts k).data.toList) (fun x hx => by
    obtain ⟨k, hk, rfl⟩ := List.mem_map.1 hx
    exact nm_len ha ((memL_inc hy).1 k hk).2)
  have h2 : ((memL y).map fun k => (at_ acts k).data.toList).length ≤ 8 := by
    rw [List.length_map]
    unfold memL
    exact Nat.le_trans (List.length_filter_le _ _) (by simp)
  unfold setS
  simp only [List.length_append, List.length_cons, List.length_nil]
  have := Nat.mul_le_mul_left 21 h2
  omega
theorem rising_ge {acc next : List Int} (h : accB acc next = true) : ∀ i, i < acc.length → (i : Int) ≤ acc.getD i 0
  | 0, hi => by
    have := ((accB_iff _ _).1 h 0 hi).1
    rw [okSet_iff] at this
    exact this.1
  | i + 1, hi => by
    have ih := rising_ge h i (by omega)
    have h2 := ((accB_iff _ _).1 h (i + 1) hi).2
    unfold risB at h2
    rw [Bool.or_eq_true, decide_eq_true_eq, decide_eq_true_eq] at h2
    rcases h2 with h2 | h2
    · omega
    · rw [Nat.add_sub_cancel] at h2
      omega
theorem acc_few {na ns : Nat} {t : Ste} (h : steB na ns t = true) (h8 : na ≤ 8) (hx : ∀ x ∈ t.1, x ≤ 9223372036854775807) : t.1.length ≤ 256 := by
  have hf := (ste_facts h hx).2.1
  unfold steB at h
  rw [Bool.and_eq_true] at h
  have hr := rising_ge h.2
  rcases Nat.lt_or_ge 256 t.1.length with h1 | h1
  · exfalso
    have h2 := hr 256 h1
    have h3 := hf (t.1.getD 256 0) (by rw [List.getD_eq_getElem?_getD, List.getElem?_eq_getElem h1]; exact List.getElem_mem h1)
    have h4 : 2 ^ na ≤ 2 ^ 8 := Nat.pow_le_pow_right (by decide) h8
    omega
  · exact h1
theorem accW_words {acts : List ByteArray} (ha : actsB acts = true) {l : List Int} (hx : ∀ x ∈ l, 0 ≤ x ∧ x.toNat < 2 ^ acts.length) : ∀ x ∈ accW acts l, x.length ≤ 200 := fun x h => by
  obtain ⟨y, hy, rfl⟩ := List.mem_map.1 h
  exact setSp_len ha (hx y hy).2
theorem nxW_words {acts : List ByteArray} (ha : actsB acts = true) {next : List Int} {ns j : Nat} (hns : ns ≤ 500) (hn : next.length = acts.length) (hj : j ≤ next.length) (hr : ∀ j, j < next.length → -1 ≤ next.getD j 0 ∧ next.getD j 0 < ns) :
    (∀ x ∈ nxW acts next j, x.length ≤ 200) ∧ (nxW acts next j).length ≤ 2 * j := by
  constructor
  · intro x h
    obtain ⟨a, ha1, h⟩ := List.mem_flatMap.1 h
    rw [List.mem_range] at ha1
    have := hr a (by omega)
    unfold toW at h
    split at h
    · cases h
    · rcases List.mem_cons.1 h with rfl | h
      · exact Nat.le_trans (nm_len ha (by omega)) (by omega)
      · rw [List.mem_singleton] at h
        rw [h]
        exact Nat.le_trans (dec_length _ (by omega)) (by omega)
  · clear hj
    induction j with
    | zero => simp [nxW]
    | succ j ih =>
      rw [nxW_next, List.length_append]
      have : (toW acts next j).length ≤ 2 := by unfold toW; split <;> simp
      omega
/-- what is written behind j sets, and behind j actions -/
def lineA (acts : List ByteArray) (t : Ste) (j : Nat) : List UInt8 := blanks (accW acts (t.1.take j))
def lineB (acts : List ByteArray) (t : Ste) (j : Nat) : List UInt8 := blanks (accW acts t.1 ++ bArrow :: nxW acts t.2 j)
theorem lineA_zero (acts : List ByteArray) (t : Ste) : lineA acts t 0 = [] := by simp [lineA, accW, blanks]
theorem lineA_next (acts : List ByteArray) (t : Ste) (j : Nat) (h : j < t.1.length) : lineA acts t (j + 1) = lineA acts t j ++ (32 :: setS acts (t.1.getD j 0).toNat) := by
  unfold lineA
  rw [take_next t.1 j 0 h]
  unfold accW
  rw [List.map_append, blanks_app]
  simp [blanks]
theorem lineB_zero (acts : List ByteArray) (t : Ste) : lineB acts t 0 = lineA acts t t.1.length ++ [32, 45, 62] := by
  unfold lineB lineA
  rw [blanks_app, List.take_length]
  simp [blanks, bArrow, nxW]
theorem lineB_none (acts : List ByteArray) (t : Ste) (j : Nat) (h : t.2.getD j 0 = -1) : lineB acts t (j + 1) = lineB acts t j := by
  unfold lineB
  rw [nxW_next]
  unfold toW
  rw [if_pos h, List.append_nil]
theorem lineB_some (acts : List ByteArray) (t : Ste) (j : Nat) (h : t.2.getD j 0 ≠ -1) : lineB acts t (j + 1) = lineB acts t j ++ (32 :: (at_ acts j).data.toList ++ 32 :: Lib.decDigits (t.2.getD j 0).toNat) := by
  unfold lineB
  rw [nxW_next]
  unfold toW
  rw [if_neg h, ← List.cons_append, ← List.append_assoc, blanks_app]
  simp [blanks]
theorem lineB_all (acts : List ByteArray) (t : Ste) : lineB acts t t.2.length = blanks (steW acts t) := rfl
structure SteLine (acts : List ByteArray) (ns : Nat) (t : Ste) : Prop where
  ok : actsB acts = true
  len : t.2.length = acts.length
  sets : ∀ x ∈ t.1, 0 ≤ x ∧ x.toNat < 2 ^ acts.length
  nums : ∀ j, j < t.2.length → -1 ≤ t.2.getD j 0 ∧ t.2.getD j 0 < ns
  few : t.1.length ≤ 256
  low : ns ≤ 500
theorem SteLine.a {acts : List ByteArray} {ns : Nat} {t : Ste} (h : SteLine acts ns t) (j : Nat) : (lineA acts t j).length ≤ 60000 := by
  have h1 := blanks_len 200 (accW acts (t.1.take j)) (accW_words h.ok (fun x hx => h.sets x (List.mem_of_mem_take hx)))
  have h2 : (accW acts (t.1.take j)).length ≤ 256 := by unfold accW; rw [List.length_map, List.length_take]; have := h.few; omega
  unfold lineA
  have := Nat.mul_le_mul_left 201 h2
  omega
theorem SteLine.b {acts : List ByteArray} {ns : Nat} {t : Ste} (h : SteLine acts ns t) {j : Nat} (hj : j ≤ t.2.length) : (lineB acts t j).length ≤ 60000 := by
  have h8 := ((actsB_iff acts).1 h.ok).1
  obtain ⟨n1, n2⟩ := nxW_words h.ok h.low h.len hj h.nums
  have h1 := blanks_len 200 (accW acts t.1 ++ bArrow :: nxW acts t.2 j) (fun x hx => by
    rcases List.mem_append.1 hx with hx | hx
    · exact accW_words h.ok h.sets x hx
    · rcases List.mem_cons.1 hx with rfl | hx
      · decide
      · exact n1 x hx)
  have h2 : (accW acts t.1 ++ bArrow :: nxW acts t.2 j).length ≤ 290 := by
    rw [List.length_append, List.length_cons]
    unfold accW
    rw [List.length_map]
    have := h.few
    have := h.len
    omega
  unfold lineB
  have := Nat.mul_le_mul_left 201 h2
  omega
theorem steLine_of {s : Spc} (hv : spcB s = true) {x : Nat} (hx : x < s.states.length) (h : ∀ z ∈ (teAt s.states x).1, z ≤ 9223372036854775807) : SteLine s.acts s.states.length (teAt s.states x) := by
  obtain ⟨ha, h1, h5, he⟩ := (spcB_iff s).1 hv
  obtain ⟨f1, f2, f3⟩ := ste_facts (he x hx) h
  exact ⟨ha, f1, f2, f3, acc_few (he x hx) ((actsB_iff _).1 ha).1 h, h5⟩
theorem NumsArg.le {w : World} {a : Option Addr} {n c : Nat} {xs : List Int} (h : NumsArg w a n c xs) : ∀ z ∈ xs, z ≤ 9223372036854775807 := fun z hz => by
  obtain ⟨j, hj, rfl⟩ := List.getElem_of_mem hz
  have := (h.rng j hj).2
  rwa [List.getD_eq_getElem?_getD, List.getElem?_eq_getElem hj] at this
theorem setCode_yes {acts : List ByteArray} (ha : actsB acts = true) {x : Int} (hx : 0 ≤ x ∧ x.toNat < 2 ^ acts.length) : setCode acts [x] = 0 := by
  have h1 : setB acts.length x = true := (setB_iff _ _).2 ⟨hx.1, by
    have h2 : ((2 ^ acts.length : Nat) : Int) = (2 : Int) ^ acts.length := by norm_cast
    omega⟩
  unfold setCode
  rw [ha, if_pos rfl, List.all_cons, List.all_nil, h1]
  rfl

set_option maxRecDepth 100000 in
set_option maxHeartbeats 8000000 in
theorem spLine_any {w : World} {a : Option Addr} {n c : Nat} {b : Option Addr} {k d : Nat} {s : Spc} {g x n1 c1 n2 c2 : Nat} {a1 a2 : Option Addr} (E : Env w) (T : Tab w) (A : SpecArg w a n c b k d s) (hv : spcB s = true)
    (hg : Whole w g 52 #[.slice a n c, .slice b k d]) (hx : x < s.states.length) (h1 : NumsArg w a1 n1 c1 (teAt s.states x).1) (h2 : NumsArg w a2 n2 c2 (teAt s.states x).2) :
    Calls Tryz.prog 80 #[.agg #[.slice a1 n1 c1, .slice a2 n2 c2], .pointer (some ⟨g, 0, none⟩)] w fun e w' => e = .returned (.string (mk (blanks (steW s.acts (teAt s.states x))))) ∧ Below w.heap.size w w' := by
  have HL := Lib.hid (steLine_of hv hx h1.le)
  obtain ⟨t, HT⟩ : ∃ t, Hid (teAt s.states x = t) := ⟨_, Lib.hid rfl⟩
  rw [HT.out] at HL h1 h2 ⊢
  have HA := Lib.hid A.acts
  have HE := Lib.hid E
  have HTb := Lib.hid T
  have H1 := Lib.hid h1
  have H2 := Lib.hid h2
  have HG := Lib.hid hg
  have h8 := ((actsB_iff s.acts).1 HL.out.ok).1
  have hn8 : n ≤ 8 := by have := A.acts.len; omega
  have hn1 : n1 ≤ 256 := by have := h1.arg.len; have := HL.out.few; omega
  have hn2 : n2 ≤ 8 := by have := h2.arg.len; have := HL.out.len; omega
  have q0 := hg.cell 0
  simp only [List.getElem?_toArray, List.getElem?_cons_zero] at q0
  have HQ0 := Lib.hid q0
  have hgl := hg.lt
  -- the box of the state, the Builder behind it
  have hB1 : Below w.heap.size w (w.alloc (.cells #[.slice a1 n1 c1, .slice a2 n2 c2] 119)) := (Below.refl _ w).alloc (Nat.le_refl _) _
  have b0 := bld_fresh (Whole.new (w.alloc (.cells #[.slice a1 n1 c1, .slice a2 n2 c2] 119)) 154 #[.pointer none, .slice none 0 0])
  have hB2 : Below (w.heap.size + 1) (w.alloc (.cells #[.slice a1 n1 c1, .slice a2 n2 c2] 119)) ((w.alloc (.cells #[.slice a1 n1 c1, .slice a2 n2 c2] 119)).alloc (.cells #[.pointer none, .slice none 0 0] 154)) := (Below.refl _ _).alloc (by simp) _
  have hW := (Whole.new w 119 #[.slice a1 n1 c1, .slice a2 n2 c2])
  simp only [World.size_alloc] at b0
  obtain ⟨w1, HW1⟩ : ∃ z, Hid (w.alloc (.cells #[.slice a1 n1 c1, .slice a2 n2 c2] 119) = z) := ⟨_, Lib.hid rfl⟩
  rw [HW1.out] at hB1 b0 hB2 hW
  have hz1 : w1.heap.size = w.heap.size + 1 := by rw [← HW1.out]; simp
  have HZ1 := Lib.hid hz1
  have HB0 := Lib.hid b0
  have HB1 := Lib.hid hB1
  have HB2 := Lib.hid hB2
  have HWs := Lib.hid hW
  clear E T A hv hg hx h1 h2 q0 b0 hB1 hB2 hW h8 hz1
  go_enter Tryz.func80, Tryz.ntmps80
  go_wp2
  rw [HW1.out]
  go_loopw [6, 7, 8, 14] (fun _ _ _ i wr => ∃ y : Nat, y ≤ n1 ∧ i = .int .i64 y ∧ Bld (w.heap.size + 1) (w.heap.size + 1) (lineA s.acts t y) wr ∧ Below (w.heap.size + 1) w1 wr) (fun _ _ _ i _ => n1 - (intOf i).toNat)
  case atStart => exact ⟨0, Nat.zero_le _, rfl, by rw [lineA_zero]; exact HB0.out, HB2.out⟩
  case round =>
    obtain ⟨y, hy, rfl, hBy, hby⟩ := hrel
    have HBy := Lib.hid hBy
    have Hby := Lib.hid hby
    have hbw := HB1.out.trans (hby.mono (by omega))
    have Hbw := Lib.hid hbw
    have hzy := hby.size
    have hWr := HWs.out.below hby (by omega)
    have p0 := hWr.cell 0
    have p1 := hWr.cell 1
    simp only [List.getElem?_toArray, List.getElem?_cons_succ, List.getElem?_cons_zero] at p0 p1
    have o1 : wr.cell? ⟨g, 0, none⟩ = some (.slice a n c) := (hbw.cell hgl).trans HQ0.out
    clear hBy hby hbw hWr
    by_cases hlt : y < n1
    · obtain ⟨be, oe, rfl, d1⟩ := (H1.out.arg.below Hbw.out).cells y (by have := H1.out.arg.len; omega)
      obtain ⟨X, HX⟩ : ∃ z, Hid (t.1.getD y 0 = z) := ⟨_, Lib.hid rfl⟩
      rw [HX.out] at d1
      have hXs := HL.out.sets X (by rw [← HX.out, List.getD_eq_getElem?_getD, List.getElem?_eq_getElem (by have := H1.out.arg.len; omega)]; exact List.getElem_mem _)
      obtain ⟨e0, e1, e2, hEr⟩ := (HE.out.below Hbw.out).errs
      have hStr := String_any X hEr (HTb.out.below Hbw.out) (HA.out.below Hbw.out)
      unfold stringV at hStr
      rw [if_pos (setCode_yes HL.out.ok hXs)] at hStr
      obtain ⟨z, HZ⟩ : ∃ z : ByteArray, Hid ((⟨(setS s.acts X.toNat).toArray⟩ : ByteArray) = z) := ⟨_, Lib.hid rfl⟩
      rw [HZ.out] at hStr
      have HStr := Lib.hid hStr
      have hzs : z.size ≤ 200 := by
        rw [← HZ.out]
        have := setSp_len HL.out.ok hXs.2
        show (mk (setS s.acts X.toNat)).size ≤ 200
        rw [mk_size']; exact this
      have HN : Hid (lineA s.acts t y ++ ((⟨#[32]⟩ : ByteArray) ++ z).data.toList = lineA s.acts t (y + 1)) := Lib.hid (by
        rw [lineA_next _ _ _ (by have := H1.out.arg.len; omega), HX.out, ← HZ.out]
        simp [ByteArray.data_append])
      have HLn := Lib.hid (HL.out.a y)
      have hadd : ¬ 9223372036854775807 < (⟨#[32]⟩ : ByteArray).size + z.size := by have : (⟨#[32]⟩ : ByteArray).size = 1 := rfl; omega
      have hadd' : ¬ 9223372036854775807 < 1 + z.size := by omega
      clear hXs hStr hEr
      go_wp2_with fail
      refine HStr.out.mono ?_
      rintro e w2 ⟨rfl, hb2⟩
      have HWr := Lib.hid (write_any (w.heap.size + 1) (w.heap.size + 1) (lineA s.acts t y) ((⟨#[32]⟩ : ByteArray) ++ z) w2 (HBy.out.up hb2) (by rw [ByteArray.size_append]; have := HLn.out; have : (⟨#[32]⟩ : ByteArray).size = 1 := rfl; omega) (by have := hb2.size; have := HZ1.out; omega))
      rw [HN.out] at HWr
      have Hb2 := Lib.hid hb2
      clear hb2
      go_wp2_with fail
      refine HWr.out.mono ?_
      rintro e w3 ⟨rfl, hB3, hb3, _⟩
      have HB3 := Lib.hid hB3
      have HF := Lib.hid ((Hby.out.trans (Hb2.out.mono (by have := HZ1.out; omega))).trans hb3)
      clear hB3 hb3 hadd hadd'
      go_wp2
      go_roundw
      case rel => exact ⟨y + 1, by omega, by go_num, HB3.out, HF.out⟩
      case measure => simp [intOf]; omega
    · have HY : Hid (y = t.1.length) := Lib.hid (by have := H1.out.arg.len; omega)
      have HLn := Lib.hid (HL.out.a y)
      have HWr := Lib.hid (write_any (w.heap.size + 1) (w.heap.size + 1) (lineA s.acts t y) (⟨#[32, 45, 62]⟩ : ByteArray) wr HBy.out (by have := HLn.out; have : (⟨#[32, 45, 62]⟩ : ByteArray).size = 3 := rfl; omega) (by have := HZ1.out; omega))
      have HN : Hid (lineA s.acts t y ++ (⟨#[32, 45, 62]⟩ : ByteArray).data.toList = lineB s.acts t 0) := Lib.hid (by rw [lineB_zero, HY.out])
      rw [HN.out] at HWr
      obtain ⟨v0, hv0⟩ : ∃ z, z = wr := ⟨_, rfl⟩
      subst hv0
      go_wp2_with fail
      refine HWr.out.mono ?_
      rintro e w3 ⟨rfl, hB3, hb3, _⟩
      have HB3 := Lib.hid hB3
      have hb3w := Hby.out.trans hb3
      have HF := Lib.hid hb3w
      have hWr := HWs.out.below hb3w (by have := HZ1.out; omega)
      have p2 := hWr.cell 1
      simp only [List.getElem?_toArray, List.getElem?_cons_succ, List.getElem?_cons_zero] at p2
      clear hB3 hb3 hb3w hWr p0 p1 o1
      go_wp2
      go_loopw [9, 10, 33] (fun _ _ i wr => ∃ y : Nat, y ≤ n2 ∧ i = .int .i64 y ∧ Bld (w.heap.size + 1) (w.heap.size + 1) (lineB s.acts t y) wr ∧ Below (w.heap.size + 1) w1 wr) (fun _ _ i _ => n2 - (intOf i).toNat)
      case atStart => exact ⟨0, Nat.zero_le _, rfl, HB3.out, HF.out⟩
      case round =>
        obtain ⟨y, hy, rfl, hBy, hby⟩ := hrel
        have HBy := Lib.hid hBy
        have Hby := Lib.hid hby
        have hbw := HB1.out.trans (hby.mono (by have := HZ1.out; omega))
        have Hbw := Lib.hid hbw
        have hzy := hby.size
        have o1 : wr.cell? ⟨g, 0, none⟩ = some (.slice a n c) := (hbw.cell hgl).trans HQ0.out
        clear hBy hby hbw
        by_cases hlt : y < n2
        · obtain ⟨bk, ok, rfl, d1⟩ := (H2.out.arg.below Hbw.out).cells y (by have := H2.out.arg.len; omega)
          obtain ⟨X, HX⟩ : ∃ z, Hid (t.2.getD y 0 = z) := ⟨_, Lib.hid rfl⟩
          rw [HX.out] at d1
          have hXs := HL.out.nums y (by have := H2.out.arg.len; omega)
          rw [HX.out] at hXs
          have h500 := HL.out.low
          by_cases hX : X = -1
          · have hq : (X != -1) = false := by rw [hX]; rfl
            have HBn : Hid (Bld (w.heap.size + 1) (w.heap.size + 1) (lineB s.acts t (y + 1)) wr) := Lib.hid (by rw [lineB_none _ _ _ (by rw [HX.out]; exact hX)]; exact HBy.out)
            clear hXs hX
            go_wp2
            go_roundw
            case rel => exact ⟨y + 1, by omega, by go_num, HBn.out, Hby.out⟩
            case measure => simp [intOf]; omega
          · obtain ⟨v, hv⟩ : ∃ v : Nat, X = (v : Int) := ⟨X.toNat, by omega⟩
            have hv5 : v < 500 := by omega
            have HXv : Hid (t.2.getD y 0 = (v : Int)) := Lib.hid (by rw [HX.out, hv])
            have hq : ((v : Int) != -1) = true := by rw [bne_iff_ne]; omega
            rw [hv] at d1
            have hyn : y < n := by have := H2.out.arg.len; have := HL.out.len; have := HA.out.len; omega
            obtain ⟨ba, oa, rfl, a0⟩ := HA.out.cells y (by have := HA.out.len; omega)
            obtain ⟨z, HZ⟩ : ∃ z, Hid (at_ s.acts y = z) := ⟨_, Lib.hid rfl⟩
            change w.cell? _ = some (.string (at_ s.acts y)) at a0
            rw [HZ.out] at a0
            have a1' := (Hbw.out.cell (lt_of_cell a0)).trans a0
            have hzs : z.size ≤ 20 := by
              have := nm_len HL.out.ok (k := y) (by have := HA.out.len; omega)
              rw [HZ.out] at this
              rw [Lib.size_eq]; exact this
            obtain ⟨D2, HD2⟩ : ∃ D, Hid (mk (Lib.decDigits v) = D) := ⟨_, Lib.hid rfl⟩
            have hD2 : D2.size ≤ 21 := by rw [← HD2.out, mk_size']; exact dec_length v (by omega)
            have hsp : (⟨#[32]⟩ : ByteArray).size = 1 := rfl
            have HN2 : Hid (lineB s.acts t y ++ ((⟨#[32]⟩ : ByteArray) ++ z ++ (⟨#[32]⟩ : ByteArray) ++ D2).data.toList = lineB s.acts t (y + 1)) := Lib.hid (by
              rw [lineB_some _ _ _ (by rw [HXv.out]; omega), HXv.out, ← HD2.out, HZ.out]
              simp [ByteArray.data_append, mk])
            have HL2 := Lib.hid (HL.out.b (j := y) (by have := H2.out.arg.len; omega))
            have HBo : Hid (Bld (w.heap.size + 1) (w.heap.size + 1) (lineB s.acts t y) wr) := HBy
            have HEr := Lib.hid (HE.out.below Hbw.out)
            have zz0 : g < wr.heap.size := lt_of_cell o1
            have zz1 : ba < wr.heap.size := lt_of_cell a1'
            have zz2 : ba < w.heap.size := lt_of_cell a0
            have zz5 : w.heap.size + 1 < wr.heap.size := bld_lt HBy.out
            have HZz := Lib.hid zz2
            have hy0 : (0 : Int) ≤ (y : Int) := by omega
            have hy1 : (y : Int) < n := by omega
            clear a0 hXs hX hv h500
            have hadd1 : ¬ 9223372036854775807 < (⟨#[32]⟩ : ByteArray).size + z.size := by omega
            have hadd2 : ¬ 9223372036854775807 < ((⟨#[32]⟩ : ByteArray) ++ z).size + (⟨#[32]⟩ : ByteArray).size := by rw [ByteArray.size_append]; omega
            have hadd3 : ¬ 9223372036854775807 < ((⟨#[32]⟩ : ByteArray) ++ z ++ (⟨#[32]⟩ : ByteArray)).size + D2.size := by rw [ByteArray.size_append, ByteArray.size_append]; omega
            have hadd4 : ¬ 9223372036854775807 < 1 + z.size := by omega
            have hadd5 : ¬ 9223372036854775807 < 1 + z.size + 1 := by omega
            have hadd6 : ¬ 9223372036854775807 < 1 + z.size + 1 + D2.size := by omega
            have hadd7 : ¬ 9223372036854775807 < ((⟨#[32]⟩ : ByteArray) ++ z).size + 1 := by rw [ByteArray.size_append]; omega
            go_wp2
            go_region_held3 (fun w' => w'.cell? ⟨g, 0, none⟩ = some (.slice (some ⟨ba, oa, none⟩) n c) ∧ w'.cell? ⟨ba, oa + y, none⟩ = some (.string z))
              ((first | assumption | go_keep))
              (first
                | (go_at_call 83; (refine (itoa_any v (by omega) _ (HEr.out.below ?_)).mono ?_; (first | exact (Below.refl _ _).drew | exact Below.refl _ _); rw [HD2.out]; rintro e wJ ⟨rfl, hbJ⟩; have kI1 := up_cell (p := ⟨g, 0, none⟩) hbJ o1; have kI2 := up_cell (p := ⟨ba, oa + y, none⟩) hbJ a1'; have kIz := hbJ.size))
                | (go_at_call 82; (refine (write_any (w.heap.size + 1) (w.heap.size + 1) (lineB s.acts t y) ((⟨#[32]⟩ : ByteArray) ++ z ++ (⟨#[32]⟩ : ByteArray) ++ D2) _ (up_bld hbJ HBo.out) ?_ ?_).mono ?_; (simp only [ByteArray.size_append]; have := HL2.out; omega); (simp at kIz; omega); rw [HN2.out]; rintro e wK ⟨rfl, hBK, hbK, hkK⟩; have kK1 := (hbK.cell (p := ⟨g, 0, none⟩) (Nat.lt_succ_of_lt HG.out.lt)).trans kI1; have kK2 := (hbK.cell (p := ⟨ba, oa + y, none⟩) (Nat.lt_succ_of_lt HZz.out)).trans kI2)))
            go_wp2
            go_roundw
            case rel =>
              have hbw : Below wr.heap.size wr wJ := by
                first
                  | exact hbJ
                  | exact (Below.refl _ wr).drew.trans hbJ
              exact ⟨y + 1, by omega, by go_num, hBK, (Hby.out.trans (hbw.mono (by omega))).trans hbK⟩
            case measure => simp [intOf]; omega
        · have HN3 : Hid (lineB s.acts t y = blanks (steW s.acts t)) := Lib.hid (by
            have h3 : y = t.2.length := by have := H2.out.arg.len; omega
            rw [h3]; exact lineB_all _ _)
          have hBe := HBy.out
          rw [HN3.out] at hBe
          have HSt := Lib.hid (bstr_any (w.heap.size + 1) (w.heap.size + 1) _ wr hBe (by have := HZ1.out; omega))
          clear hBe
          go_wp2_with fail
          refine HSt.out.mono ?_
          rintro e w7 ⟨rfl, hb7⟩
          go_wp2
          go_ret
          exact ⟨rfl, HB1.out.trans ((Hby.out.trans hb7).mono (by omega))⟩
end Go.Proofs.YtgnbkepdbdgkdaaGreatDoor
