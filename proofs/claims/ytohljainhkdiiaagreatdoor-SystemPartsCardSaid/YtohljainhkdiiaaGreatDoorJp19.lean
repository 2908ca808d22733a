/- Texts joined: SpStr. -/
import Derived.Test.YtohljainhkdiiaaGreatDoorJp13
import Derived.Test.YtohljainhkdiiaaGreatDoorJp09
/- Plain facts: the string of a specification, and how it is read back; nothing here is about a program. -/
namespace Go.Proofs.YtohljainhkdiiaaGreatDoor.Pl
open Go Go.Lib

/-! ### strings of objects, whatever their kind -/
def blanks (ws : List (List UInt8)) : List UInt8 := ws.flatMap fun x => 32 :: x
theorem blanks_app (a b : List (List UInt8)) : blanks (a ++ b) = blanks a ++ blanks b := by simp [blanks]
def headL (kw : List UInt8) (acts : List ByteArray) : List UInt8 := kw ++ acts.flatMap (fun a => [32] ++ a.data.toList)
theorem headL_join (kw : List UInt8) (acts : List ByteArray) : headL kw acts = join (kw :: acts.map (·.data.toList)) [32] := by
  unfold headL
  rw [join_flat, List.flatMap_map]
  rfl
def lineK (i : Nat) (w : List (List UInt8)) : List UInt8 := decDigits i ++ [58] ++ blanks w
theorem lineK_join (i : Nat) (w : List (List UInt8)) : lineK i w = join ((decDigits i ++ [58]) :: w) [32] := by
  unfold lineK blanks
  rw [join_flat]
/-- the string of the first k states -/
def objK (kw : List UInt8) (acts : List ByteArray) (ws : List (List (List UInt8))) (k : Nat) : List UInt8 := headL kw acts ++ [10] ++ (List.range k).flatMap (fun i => lineK i (ws.getD i []) ++ [10])
def objS (kw : List UInt8) (acts : List ByteArray) (ws : List (List (List UInt8))) : List UInt8 := objK kw acts ws ws.length
theorem objK_next (kw : List UInt8) (acts : List ByteArray) (ws : List (List (List UInt8))) (k : Nat) : objK kw acts ws (k + 1) = objK kw acts ws k ++ (lineK k (ws.getD k []) ++ [10]) := by
  unfold objK
  rw [List.range_succ, List.flatMap_append, List.flatMap_singleton, ← List.append_assoc]
def linesK (kw : List UInt8) (acts : List ByteArray) (ws : List (List (List UInt8))) : List (List UInt8) := headL kw acts :: (List.range ws.length).map fun i => lineK i (ws.getD i [])
theorem shift_nl : ∀ (l : List (List UInt8)) (x : List UInt8), x ++ [10] ++ l.flatMap (fun y => y ++ [10]) = x ++ l.flatMap (fun y => 10 :: y) ++ [10]
  | [], x => by simp
  | y :: l, x => by
    have := shift_nl l (x ++ [10] ++ y)
    simp only [List.flatMap_cons, List.append_assoc, List.cons_append, List.nil_append] at this ⊢
    rw [this]
theorem objS_lines (kw : List UInt8) (acts : List ByteArray) (ws : List (List (List UInt8))) : objS kw acts ws = join (linesK kw acts ws) [10] ++ [10] := by
  unfold objS objK linesK
  rw [join_flat, ← shift_nl, List.flatMap_map]
theorem mkd_map (acts : List ByteArray) : (acts.map (·.data.toList)).map mk = acts := by
  rw [List.map_map]
  have : (mk ∘ fun x : ByteArray => x.data.toList) = id := by funext x; exact mk_of x
  rw [this, List.map_id]
theorem head_noK {kw : List UInt8} {acts : List ByteArray} (ha : actsB acts = true) (c : UInt8) (hc : nmB (c.toNat : Int) = false) (hs : c ∉ kw) : ∀ x ∈ kw :: acts.map (·.data.toList), c ∉ x := by
  intro x hx
  rcases List.mem_cons.1 hx with rfl | hx
  · exact hs
  · obtain ⟨a, h1, rfl⟩ := List.mem_map.1 hx
    obtain ⟨k, hk, rfl⟩ := List.getElem_of_mem h1
    have := acts_name ha hk
    unfold at_ at this
    rw [List.getD_eq_getElem?_getD, List.getElem?_eq_getElem hk] at this
    exact name_no this c hc
theorem num_no (c : UInt8) (h : c.toNat < 48 ∨ 57 < c.toNat) (h58 : c ≠ 58) (i : Nat) : c ∉ decDigits i ++ [58] := fun hm => by
  rcases List.mem_append.1 hm with h1 | h1
  · exact dec_no c h i h1
  · exact h58 (by simpa using h1)
theorem head_backK {kw : List UInt8} {acts : List ByteArray} (ha : actsB acts = true) (h32 : 32 ∉ kw) : headK kw (headL kw acts) = some acts := by
  unfold headK
  rw [headL_join, sp_join 32 _ (by simp) (head_noK ha 32 (by decide) h32)]
  simp only [mkd_map, ha, and_self, if_true]
theorem row_backK {R : Type} {rp : List ByteArray → List (List UInt8) → Option R} {acts : List ByteArray} {i : Nat} {w : List (List UInt8)} (hw : ∀ x ∈ w, (32 : UInt8) ∉ x) : rowK rp acts i (lineK i w) = rp acts w := by
  unfold rowK
  rw [lineK_join, sp_join 32 _ (by simp) (fun x hx => by
    rcases List.mem_cons.1 hx with rfl | hx
    · exact num_no 32 (by decide) (by decide) i
    · exact hw x hx)]
  show (if decDigits i ++ [58] = decDigits i ++ [58] then rp acts w else none) = _
  rw [if_pos rfl]
theorem join_noK (xs : List (List UInt8)) (hxs : ∀ x ∈ xs, (10 : UInt8) ∉ x) : (10 : UInt8) ∉ join xs [32] := by
  cases xs with
  | nil => simp [join_nil]
  | cons x r =>
    rw [join_flat]
    intro hm
    rcases List.mem_append.1 hm with h1 | h1
    · exact hxs x (by simp) h1
    · obtain ⟨y, hy, h2⟩ := List.mem_flatMap.1 h1
      rcases List.mem_cons.1 h2 with h3 | h3
      · cases h3
      · exact hxs y (by simp [hy]) h3
theorem lines_noK {kw : List UInt8} {acts : List ByteArray} {ws : List (List (List UInt8))} (ha : actsB acts = true) (hkw : (10 : UInt8) ∉ kw) (hw : ∀ w ∈ ws, ∀ x ∈ w, (10 : UInt8) ∉ x) : ∀ x ∈ linesK kw acts ws, (10 : UInt8) ∉ x := by
  intro x hx
  unfold linesK at hx
  rcases List.mem_cons.1 hx with rfl | hx
  · rw [headL_join]
    exact join_noK _ (head_noK ha 10 (by decide) hkw)
  · obtain ⟨i, hi, rfl⟩ := List.mem_map.1 hx
    rw [List.mem_range] at hi
    rw [lineK_join]
    refine join_noK _ (fun y hy => ?_)
    rcases List.mem_cons.1 hy with rfl | hy
    · exact num_no 10 (by decide) (by decide) i
    · rw [List.getD_eq_getElem?_getD, List.getElem?_eq_getElem hi] at hy
      exact hw _ (List.getElem_mem hi) y hy
theorem lines_lastK {kw : List UInt8} {acts : List ByteArray} {ws : List (List (List UInt8))} (hk : kw ≠ []) (hno : ∀ x ∈ linesK kw acts ws, (10 : UInt8) ∉ x) : ∃ y z, join (linesK kw acts ws) [10] = y ++ z ∧ z ≠ [] ∧ (10 : UInt8) ∉ z := by
  have hne : ∀ x ∈ linesK kw acts ws, x ≠ [] := by
    intro x hx
    unfold linesK at hx
    rcases List.mem_cons.1 hx with rfl | hx
    · unfold headL; intro e; exact hk (List.append_eq_nil_iff.1 e).1
    · obtain ⟨i, _, rfl⟩ := List.mem_map.1 hx
      simp [lineK]
  cases hl : linesK kw acts ws with
  | nil => simp [linesK] at hl
  | cons x r =>
    rw [hl] at hno hne
    rw [join_flat]
    rcases List.eq_nil_or_concat r with rfl | ⟨r', z, rfl⟩
    · exact ⟨[], x, by simp, hne x (by simp), hno x (by simp)⟩
    · refine ⟨x ++ r'.flatMap (fun y => 10 :: y) ++ [10], z, by simp, hne z (by simp), hno z (by simp)⟩
/-- what is printed is read back -/
theorem textK_join {R : Type} {kw : List UInt8} {rp : List ByteArray → List (List UInt8) → Option R} {acts : List ByteArray} {ws : List (List (List UInt8))} {ss : List R} {s : List UInt8} (ha : actsB acts = true) (h32 : (32 : UInt8) ∉ kw) (h10 : (10 : UInt8) ∉ kw)
    (hw : ∀ w ∈ ws, ∀ x ∈ w, (32 : UInt8) ∉ x ∧ (10 : UInt8) ∉ x) (hl : ss.length = ws.length) (hr : ∀ i, i < ws.length → ∃ x, ss[i]? = some x ∧ rp acts (ws.getD i []) = some x)
    (hs : s.length ≤ 60000) (hc : cut1 s = join (linesK kw acts ws) [10]) : textK kw rp s = (acts, ss, 0) := by
  unfold textK
  rw [if_neg (by omega), hc, sp_join 10 _ (by simp [linesK]) (lines_noK ha h10 (fun w h x hx => (hw w h x hx).2))]
  show (match headK kw (headL kw acts) with | none => ([], [], (11 : Int)) | some acts => _) = _
  rw [head_backK ha h32]
  show (match rowsK rp acts 0 ((List.range ws.length).map fun i => lineK i (ws.getD i [])) with | none => ([], [], (11 : Int)) | some ss => (acts, ss, 0)) = _
  rw [rowsK_good _ 0 ss (by simp [hl]) (fun k hk => by
    rw [List.length_map, List.length_range] at hk
    obtain ⟨x, h1, h2⟩ := hr k hk
    refine ⟨x, h1, ?_⟩
    have e : ((List.range ws.length).map fun i => lineK i (ws.getD i [])).getD k [] = lineK k (ws.getD k []) := by
      rw [List.getD_eq_getElem?_getD, List.getElem?_map, List.getElem?_range hk]; rfl
    rw [e, Nat.zero_add, row_backK, h2]
    intro y hy
    rw [List.getD_eq_getElem?_getD, List.getElem?_eq_getElem hk] at hy
    exact (hw _ (List.getElem_mem hk) y hy).1)]
theorem textK_back {R : Type} {kw : List UInt8} {rp : List ByteArray → List (List UInt8) → Option R} {acts : List ByteArray} {ws : List (List (List UInt8))} {ss : List R} (ha : actsB acts = true) (hk : kw ≠ []) (h32 : (32 : UInt8) ∉ kw) (h10 : (10 : UInt8) ∉ kw)
    (hw : ∀ w ∈ ws, ∀ x ∈ w, (32 : UInt8) ∉ x ∧ (10 : UInt8) ∉ x) (hl : ss.length = ws.length) (hr : ∀ i, i < ws.length → ∃ x, ss[i]? = some x ∧ rp acts (ws.getD i []) = some x)
    (hs : (objS kw acts ws).length ≤ 60000) : textK kw rp (objS kw acts ws) = (acts, ss, 0) ∧ textK kw rp ((objS kw acts ws).take ((objS kw acts ws).length - 1)) = (acts, ss, 0) := by
  refine ⟨textK_join ha h32 h10 hw hl hr hs (by rw [objS_lines, trim_snoc]), ?_⟩
  obtain ⟨y, z, e, hz, hno⟩ := lines_lastK (acts := acts) (ws := ws) hk (lines_noK ha h10 (fun w h x hx => (hw w h x hx).2))
  have e2 : (objS kw acts ws).take ((objS kw acts ws).length - 1) = join (linesK kw acts ws) [10] := by rw [objS_lines]; simp
  rw [e2]
  rw [objS_lines] at hs
  refine textK_join ha h32 h10 hw hl hr (by simp at hs; omega) ?_
  rw [e, cut_other y hz hno]

/-! ### specifications -/
def bSpec : List UInt8 := [115, 112, 101, 99]
def bArrow : List UInt8 := [45, 62]
def accW (acts : List ByteArray) (l : List Int) : List (List UInt8) := l.map fun x => setS acts x.toNat
/-- an action that leads on, and where -/
def toW (acts : List ByteArray) (next : List Int) (a : Nat) : List (List UInt8) := if next.getD a 0 = -1 then [] else [(at_ acts a).data.toList, decDigits (next.getD a 0).toNat]
/-- the first j actions that lead on -/
def nxW (acts : List ByteArray) (next : List Int) (j : Nat) : List (List UInt8) := (List.range j).flatMap (toW acts next)
theorem nxW_next (acts : List ByteArray) (next : List Int) (j : Nat) : nxW acts next (j + 1) = nxW acts next j ++ toW acts next j := by
  unfold nxW
  rw [List.range_succ, List.flatMap_append, List.flatMap_singleton]
def steW (acts : List ByteArray) (t : Ste) : List (List UInt8) := accW acts t.1 ++ bArrow :: nxW acts t.2 t.2.length
def strSp (s : Spc) : List UInt8 := objS bSpec s.acts (s.states.map (steW s.acts))
def noSpc : Spc := ⟨[], []⟩
/-- what is read so far of a state -/
structure Rd where
  part : Nat
  last : Int
  acc : List Int
  next : List Int
def stepR (acts : List ByteArray) (r : Rd) (x : List UInt8) : Option Rd :=
  if r.part = 0 then (if x = bArrow then some ⟨1, r.last, r.acc, r.next⟩ else match parseO acts x with | none => none | some y => some ⟨0, r.last, r.acc ++ [(y : Int)], r.next⟩)
  else if r.part = 1 then (if idxOfS acts (mk x) < 0 ∨ idxOfS acts (mk x) ≤ r.last then none else some ⟨2, idxOfS acts (mk x), r.acc, r.next⟩)
  else match numV x with | none => none | some t => some ⟨1, r.last, r.acc, r.next.set r.last.toNat t⟩
def foldR (acts : List ByteArray) (r : Option Rd) (ws : List (List UInt8)) : Option Rd := ws.foldl (fun q x => q.bind fun r => stepR acts r x) r
theorem foldR_cons (acts : List ByteArray) (r : Rd) (x : List UInt8) (ws : List (List UInt8)) : foldR acts (some r) (x :: ws) = foldR acts (stepR acts r x) ws := rfl
theorem foldR_app (acts : List ByteArray) (r : Option Rd) (a b : List (List UInt8)) : foldR acts r (a ++ b) = foldR acts (foldR acts r a) b := by simp [foldR]
theorem foldR_none (acts : List ByteArray) : ∀ ws : List (List UInt8), foldR acts none ws = none
  | [] => rfl
  | _ :: ws => foldR_none acts ws
def rd0 (acts : List ByteArray) : Rd := ⟨0, -1, [], List.replicate acts.length (-1)⟩
def rdO (q : Option Rd) : Option Ste := match q with | none => none | some r => if r.part = 1 then some (r.acc, r.next) else none
/-- the words of a state behind its number -/
def steO (acts : List ByteArray) (ws : List (List UInt8)) : Option Ste := rdO (foldR acts (some (rd0 acts)) ws)
/-- what a string is read as -/
def parseSp (s : List UInt8) : Spc × Int :=
  if (textK bSpec steO s).2.2 = 0 then (if spcB ⟨(textK bSpec steO s).1, (textK bSpec steO s).2.1⟩ = true then (⟨(textK bSpec steO s).1, (textK bSpec steO s).2.1⟩, 0) else (noSpc, 30)) else (noSpc, (textK bSpec steO s).2.2)
theorem parseSp_bad {s : List UInt8} {c : Int} (h : textK bSpec steO s = ([], [], c)) (hc : c ≠ 0) : parseSp s = (noSpc, c) := by
  unfold parseSp; rw [h, if_neg hc]
theorem parseSp_no {s : List UInt8} {acts : List ByteArray} {ss : List Ste} (h : textK bSpec steO s = (acts, ss, 0)) (hc : spcB ⟨acts, ss⟩ = false) : parseSp s = (noSpc, 30) := by
  unfold parseSp; rw [h, if_pos rfl, if_neg (by rw [hc]; decide)]
theorem parseSp_yes {s : List UInt8} {acts : List ByteArray} {ss : List Ste} (h : textK bSpec steO s = (acts, ss, 0)) (hc : spcB ⟨acts, ss⟩ = true) : parseSp s = (⟨acts, ss⟩, 0) := by
  unfold parseSp; rw [h, if_pos rfl, if_pos hc]
theorem setS_arrow (acts : List ByteArray) (y : Nat) : setS acts y ≠ bArrow := by
  intro e
  have := congrArg List.head? e
  simp [setS, bArrow] at this
theorem fold_acc {acts : List ByteArray} (ha : actsB acts = true) : ∀ (l : List Int) (acc nx : List Int) (p : Int), (∀ x ∈ l, 0 ≤ x ∧ x.toNat < 2 ^ acts.length) →
    foldR acts (some ⟨0, p, acc, nx⟩) (accW acts l) = some ⟨0, p, acc ++ l, nx⟩
  | [], acc, nx, p, _ => by simp [accW, foldR]
  | x :: l, acc, nx, p, h => by
    have h1 := h x (by simp)
    have ih := fold_acc ha l (acc ++ [x]) nx p (fun y hy => h y (by simp [hy]))
    have e : accW acts (x :: l) = setS acts x.toNat :: accW acts l := rfl
    have hp : parseO acts (setS acts x.toNat) = some x.toNat := (parse_iff ha _ _).2 ⟨h1.2, rfl⟩
    have hs : stepR acts ⟨0, p, acc, nx⟩ (setS acts x.toNat) = some ⟨0, p, acc ++ [x], nx⟩ := by
      unfold stepR
      rw [if_pos rfl, if_neg (setS_arrow _ _), hp]
      show some (Rd.mk 0 p (acc ++ [(x.toNat : Int)]) nx) = _
      rw [Int.toNat_of_nonneg h1.1]
    rw [e, foldR_cons, hs, ih]
    simp
theorem fold_next {acts : List ByteArray} (ha : actsB acts = true) {next : List Int} (hn : next.length = acts.length) (hr : ∀ j, j < next.length → -1 ≤ next.getD j 0 ∧ next.getD j 0 ≤ 9223372036854775807) (acc : List Int) : ∀ j, j ≤ next.length →
    ∃ p, p < (j : Int) ∧ foldR acts (some ⟨1, -1, acc, List.replicate acts.length (-1)⟩) (nxW acts next j) = some ⟨1, p, acc, next.take j ++ List.replicate (acts.length - j) (-1)⟩
  | 0, _ => ⟨-1, by omega, by simp [nxW, foldR]⟩
  | j + 1, h => by
    obtain ⟨p, hp, ih⟩ := fold_next ha hn hr acc j (by omega)
    have hj := hr j (by omega)
    have et : next.take (j + 1) = next.take j ++ [next.getD j 0] := take_next next j 0 (by omega)
    have er : List.replicate (acts.length - j) (-1 : Int) = -1 :: List.replicate (acts.length - (j + 1)) (-1) := by
      rw [show acts.length - j = (acts.length - (j + 1)) + 1 by omega, List.replicate_succ]
    rw [nxW_next, foldR_app, ih]
    unfold toW
    by_cases e : next.getD j 0 = -1
    · rw [if_pos e]
      refine ⟨p, by omega, ?_⟩
      show some _ = some _
      rw [et, er, e]
      simp
    · rw [if_neg e]
      refine ⟨j, by omega, ?_⟩
      have hi : idxOfS acts (mk (at_ acts j).data.toList) = j := by rw [mk_of]; exact acts_idx ha (by omega)
      have h1 : stepR acts ⟨1, p, acc, next.take j ++ List.replicate (acts.length - j) (-1)⟩ (at_ acts j).data.toList = some ⟨2, j, acc, next.take j ++ List.replicate (acts.length - j) (-1)⟩ := by
        unfold stepR
        rw [if_neg (show ¬ (1 : Nat) = 0 by decide), if_pos rfl, hi, if_neg (show ¬ ((j : Int) < 0 ∨ (j : Int) ≤ p) by omega)]
      have h2 : stepR acts ⟨2, j, acc, next.take j ++ List.replicate (acts.length - j) (-1)⟩ (decDigits (next.getD j 0).toNat) = some ⟨1, j, acc, next.take (j + 1) ++ List.replicate (acts.length - (j + 1)) (-1)⟩ := by
        unfold stepR
        rw [if_neg (show ¬ (2 : Nat) = 0 by decide), if_neg (show ¬ (2 : Nat) = 1 by decide), numV_dec _ (by omega)]
        show some (Rd.mk 1 j acc ((next.take j ++ List.replicate (acts.length - j) (-1)).set j (((next.getD j 0).toNat : Nat) : Int))) = _
        rw [Int.toNat_of_nonneg (by omega), et, er, List.set_append_right _ _ (by rw [List.length_take]; omega)]
        rw [List.length_take, Nat.min_eq_left (by omega), Nat.sub_self, List.set_cons_zero]
        simp
      rw [foldR_cons, h1, foldR_cons, h2]
      rfl
theorem ste_back {acts : List ByteArray} (ha : actsB acts = true) {t : Ste} (hn : t.2.length = acts.length) (hx : ∀ x ∈ t.1, 0 ≤ x ∧ x.toNat < 2 ^ acts.length) (hr : ∀ j, j < t.2.length → -1 ≤ t.2.getD j 0 ∧ t.2.getD j 0 ≤ 9223372036854775807) : steO acts (steW acts t) = some t := by
  unfold steO steW rd0
  rw [foldR_app, fold_acc ha t.1 [] _ (-1) hx, List.nil_append, foldR_cons]
  have h1 : stepR acts ⟨0, -1, t.1, List.replicate acts.length (-1)⟩ bArrow = some ⟨1, -1, t.1, List.replicate acts.length (-1)⟩ := by
    unfold stepR
    rw [if_pos rfl, if_pos rfl]
  obtain ⟨p, _, h2⟩ := fold_next ha hn hr t.1 t.2.length (Nat.le_refl _)
  rw [h1, h2, List.take_length, hn, Nat.sub_self]
  simp [rdO]
theorem lt_pow_of_bits {x n : Nat} (hx : x < 2 ^ 64) (h : ∀ a, a < 64 → x.testBit a = true → a < n) : x < 2 ^ n := by
  refine Nat.lt_pow_two_of_testBit x (fun i hi => ?_)
  rcases Nat.lt_or_ge i 64 with h1 | h1
  · rw [Bool.eq_false_iff]
    intro hb
    have := h i h1 hb
    omega
  · exact Nat.testBit_lt_two_pow (Nat.lt_of_lt_of_le hx (Nat.pow_le_pow_right (by decide) h1))
/-- what is known of a state of a valid specification -/
theorem ste_facts {na ns : Nat} {t : Ste} (h : steB na ns t = true) (hx : ∀ x ∈ t.1, x ≤ 9223372036854775807) :
    t.2.length = na ∧ (∀ x ∈ t.1, 0 ≤ x ∧ x.toNat < 2 ^ na) ∧ (∀ j, j < t.2.length → -1 ≤ t.2.getD j 0 ∧ t.2.getD j 0 < ns) := by
  unfold steB at h
  rw [Bool.and_eq_true, nextB_iff, accB_iff] at h
  obtain ⟨⟨h1, h2⟩, h3⟩ := h
  refine ⟨h1, fun x hm => ?_, fun j hj => (okNext_iff _ _).1 (h2 j hj)⟩
  obtain ⟨i, hi, e⟩ := List.getElem_of_mem hm
  have h4 := (h3 i hi).1
  rw [List.getD_eq_getElem?_getD, List.getElem?_eq_getElem hi, Option.getD_some, e, okSet_iff] at h4
  refine ⟨h4.1, lt_pow_of_bits (by have := hx x hm; omega) (fun a ha hb => ?_)⟩
  have := h4.2 a ha hb
  unfold leadP at this
  rw [Bool.and_eq_true, decide_eq_true_eq] at this
  omega
theorem set_no {acts : List ByteArray} (ha : actsB acts = true) (y : Nat) (hy : y < 2 ^ acts.length) (c : UInt8) (hc : nmB (c.toNat : Int) = false) (h1 : c ≠ 123) (h2 : c ≠ 125) (h3 : c ≠ 44) : c ∉ setS acts y := by
  unfold setS
  intro hm
  rw [List.mem_append, List.mem_append] at hm
  rcases hm with (hm | hm) | hm
  · exact h1 (by simpa using hm)
  · have hall : ∀ x ∈ (memL y).map fun k => (at_ acts k).data.toList, c ∉ x := fun x hx => by
      obtain ⟨k, hk, rfl⟩ := List.mem_map.1 hx
      exact name_no (acts_name ha ((memL_inc hy).1 k hk).2) c hc
    revert hm hall
    generalize (memL y).map (fun k => (at_ acts k).data.toList) = xs
    intro hm hall
    cases xs with
    | nil => simp [join_nil] at hm
    | cons x r =>
      rw [join_flat] at hm
      rcases List.mem_append.1 hm with h4 | h4
      · exact hall x (by simp) h4
      · obtain ⟨z, hz, h5⟩ := List.mem_flatMap.1 h4
        rcases List.mem_cons.1 h5 with h6 | h6
        · exact h3 h6
        · exact hall z (by simp [hz]) h6
  · exact h2 (by simpa using hm)
theorem steW_no {acts : List ByteArray} (ha : actsB acts = true) {t : Ste} (hn : t.2.length = acts.length) (hx : ∀ x ∈ t.1, 0 ≤ x ∧ x.toNat < 2 ^ acts.length) (c : UInt8) (hc : nmB (c.toNat : Int) = false) (h1 : c ≠ 123) (h2 : c ≠ 125) (h3 : c ≠ 44) (h4 : c ≠ 62) (h5 : c.toNat < 48 ∨ 57 < c.toNat) :
    ∀ x ∈ steW acts t, c ∉ x := by
  intro x hm
  unfold steW at hm
  rcases List.mem_append.1 hm with hm | hm
  · obtain ⟨y, hy, rfl⟩ := List.mem_map.1 hm
    exact set_no ha _ (hx y hy).2 c hc h1 h2 h3
  · rcases List.mem_cons.1 hm with rfl | hm
    · intro h
      rcases List.mem_cons.1 h with h | h
      · subst h; revert hc; decide
      · exact h4 (by simpa using h)
    · obtain ⟨a, ha1, h⟩ := List.mem_flatMap.1 hm
      rw [List.mem_range] at ha1
      unfold toW at h
      split at h
      · cases h
      · rcases List.mem_cons.1 h with rfl | h
        · exact name_no (acts_name ha (by omega)) c hc
        · rw [List.mem_singleton] at h
          rw [h]
          exact dec_no c h5 _
/-- P3.6: what is printed is read back. -/
theorem parse_strSp {s : Spc} (h : spcB s = true) (hx : ∀ i, i < s.states.length → ∀ x ∈ (teAt s.states i).1, x ≤ 9223372036854775807) (hs : (strSp s).length ≤ 60000) :
    parseSp (strSp s) = (s, 0) ∧ parseSp ((strSp s).take ((strSp s).length - 1)) = (s, 0) := by
  obtain ⟨ha, h1, h5, he⟩ := (spcB_iff s).1 h
  have hst : ∀ i (hi : i < s.states.length), teAt s.states i = s.states[i] := fun i hi => by
    unfold teAt; rw [List.getD_eq_getElem?_getD, List.getElem?_eq_getElem hi]; rfl
  have hf := fun i hi => ste_facts (he i hi) (hx i hi)
  have hb := textK_back (kw := bSpec) (rp := steO) (acts := s.acts) (ws := s.states.map (steW s.acts)) (ss := s.states) ha (by decide) (by decide) (by decide)
    (fun w hw x hxw => by
      obtain ⟨t, ht, rfl⟩ := List.mem_map.1 hw
      obtain ⟨i, hi, e⟩ := List.getElem_of_mem ht
      rw [← hst i hi] at e
      subst e
      obtain ⟨f1, f2, f3⟩ := hf i hi
      exact ⟨steW_no ha f1 f2 32 (by decide) (by decide) (by decide) (by decide) (by decide) (by decide) x hxw, steW_no ha f1 f2 10 (by decide) (by decide) (by decide) (by decide) (by decide) (by decide) x hxw⟩)
    (by simp) (fun i hi => by
      rw [List.length_map] at hi
      obtain ⟨f1, f2, f3⟩ := hf i hi
      refine ⟨teAt s.states i, by rw [hst i hi]; exact List.getElem?_eq_getElem hi, ?_⟩
      rw [List.getD_eq_getElem?_getD, List.getElem?_map, List.getElem?_eq_getElem hi, Option.map_some, Option.getD_some, ← hst i hi]
      exact ste_back ha f1 f2 (fun j hj => by have := f3 j hj; omega))
    hs
  exact ⟨parseSp_yes hb.1 h, parseSp_yes hb.2 h⟩
end Go.Proofs.YtohljainhkdiiaaGreatDoor.Pl
