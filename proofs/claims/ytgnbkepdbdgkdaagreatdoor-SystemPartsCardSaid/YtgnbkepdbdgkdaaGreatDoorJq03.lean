/- Texts joined: Build, Parts, Text. -/
import Derived.Test.YtgnbkepdbdgkdaaGreatDoorJq02
import Derived.Lib.Builder
import Derived.Lib.SlBytesConst
import Derived.Test.YtgnbkepdbdgkdaaGreatDoorJq00
import Derived.Lib.Bytealg
import Derived.Lib.Strings
import Derived.Test.YtgnbkepdbdgkdaaGreatDoorJq01
import Derived.Lib.ItoaNum
import Derived.Lib.AtoiAllCases
import Derived.Lib.Split
import Derived.Lib.IndexBytes
/- strings.Builder as the program uses it: WriteString. -/
namespace Go.Proofs.YtgnbkepdbdgkdaaGreatDoor
open Go.RowKit Pl

theorem infoByte : (Tryz.prog.info? 5).map (fun i => (i.zero, i.size, i.bytes)) = some (some (.int .u8 0), 1, 1) := by kernel_rfl
theorem sizeBuilder : (Tryz.prog.info? 154).map (·.size) = some 2 := by kernel_rfl
theorem liesBuilder : liesAt Tryz.prog Tryz.prog.depth 154 (2 / Tryz.prog.cellsOf 154) 0 154 1 = true := by kernel_rfl
theorem own_slice' {W : World} {base : Nat} {e : TypeId} {size n : Nat} {v : Value} {xs : List Value} (h : W.ownsRow base e size v n xs) : ∃ a c, v = .slice a n c := by
  rcases h.2 with ⟨rfl, rfl⟩ | ⟨g, cap, cur, rfl, _⟩
  · exact ⟨none, 0, rfl⟩
  · exact ⟨_, cap, rfl⟩
theorem below_grown' {w w' : World} (hb : Below w.heap.size w w') : w.grownBy w' none := ⟨hb.os, hb.tape, hb.output, hb.size, fun k hk _ => hb.block k hk⟩
/-- whatever lies in another block, and is no row of bytes, stands -/
def Kept (b : Nat) (w w' : World) : Prop := ∀ g t cs, g ≠ b → t ≠ 5 → Whole w g t cs → Whole w' g t cs
abbrev Bld (B b : Nat) (l : List UInt8) (w : World) : Prop := Lib.IsBuilder 154 5 B b (Lib.byteCells l) w
set_option maxRecDepth 100000 in
set_option maxHeartbeats 1000000 in
theorem copyCheck_any (B b : Nat) (bs : List Value) (w : World) (h : Lib.IsBuilder 154 5 B b bs w) :
    Calls Tryz.prog 116 #[.pointer (some ⟨b, 0, none⟩)] w fun e w' => e = .returned (.tuple #[]) ∧ Lib.BuilderAt 154 5 B b (.pointer (some ⟨b, 0, none⟩)) bs w' ∧ Below B w w' ∧ Kept b w w' := by
  obtain ⟨j, hj, hj2⟩ : ∃ j, Tryz.prog.info? 154 = some j ∧ j.size ≠ 0 := by
    have := sizeBuilder
    cases e : Tryz.prog.info? 154 with
    | none => rw [e] at this; cases this
    | some j => rw [e] at this; simp at this; exact ⟨j, rfl, by omega⟩
  rcases h with h | h
  · have c0 := h.cell0
    have f0 := h.frozen0
    have k1 : (convert 151 235 (.pointer (some ⟨b, 0, none⟩))).run Tryz.prog w = .ok (.pointer (some ⟨b, 0, none⟩)) w := Lib.run_to_unsafe w ⟨b, 0, none⟩ Tryz.underlying151 Tryz.underlying235 hj hj2 h.shape (by simp)
    have k2 : (convert 235 151 (.pointer (some ⟨b, 0, none⟩))).run Tryz.prog w = .ok (.pointer (some ⟨b, 0, none⟩)) w := Lib.run_from_unsafe w ⟨b, 0, none⟩ Tryz.underlying235 Tryz.underlying151 hj h.shape liesBuilder
    have HU := Lib.hid (h.used (.pointer (some ⟨b, 0, none⟩)))
    have HB := Lib.hid h.1
    clear h
    go_enter Tryz.func116, Tryz.ntmps116
    go_wp2
    rw [run_callFunc_extern Tryz.func152 (by kernel_rfl) (by kernel_rfl) (by kernel_rfl) (e := Extern.AbiNoEscape.same) (by kernel_rfl), Lib.run_noEscape]
    simp only [Result.andThen]
    rw [Oper.upon_value]
    go_wp2
    refine bodyPost_end (results_none rfl _ _ _) (by rfl) ?_
    exact ⟨rfl, HU.out, (Below.refl B w).setCell HB.out _, fun g t cs hg _ hw => hw.far hg _⟩
  · have c0 := h.cell0
    have HU := Lib.hid h
    have kn := Lib.run_neq_ptr_same w ⟨b, 0, none⟩ Tryz.underlying151 hj
    clear h
    go_enter Tryz.func116, Tryz.ntmps116
    go_wp2
    go_end0
    exact ⟨rfl, HU.out, Below.refl B w, fun g t cs _ _ hw => hw⟩

theorem bytes_app (l l' : List UInt8) : Lib.byteCells (l ++ l') = Lib.byteCells l ++ Lib.byteCells l' := Lib.byteCells_append l l'
set_option maxRecDepth 100000 in
set_option maxHeartbeats 1000000 in
theorem write_any (B b : Nat) (l : List UInt8) (s : ByteArray) (w : World) (h : Bld B b l w) (hlen : l.length + s.size ≤ 140737488355328) (hBw : B ≤ w.heap.size) :
    Calls Tryz.prog 82 #[.pointer (some ⟨b, 0, none⟩), .string s] w fun e w' => e = .returned (.tuple #[.int .i64 s.size, .nilIface]) ∧ Bld B b (l ++ s.data.toList) w' ∧ Below B w w' ∧ Kept b w w' := by
  obtain ⟨i0, hi, hz0, hz1, hz2⟩ := info_parts infoByte
  have HC := Lib.hid (copyCheck_any B b _ w h)
  have hs : s.size ≤ 140737488355328 := by omega
  go_enter Tryz.func82, Tryz.ntmps82
  go_wp2_with fail
  refine HC.out.mono ?_
  rintro e w1 ⟨rfl, h1, hb1, hk1⟩
  have HK1 := Lib.hid hk1
  clear hk1
  obtain ⟨hB, v, hbk, hown, hne⟩ := h1
  rw [Lib.byteCells_length] at hown
  obtain ⟨va, vc, rfl⟩ : ∃ va vc, v = .slice va l.length vc := by
    rcases hown.2 with ⟨rfl, h0⟩ | ⟨g, cap, cur, rfl, _⟩
    · exact ⟨none, 0, by rw [h0]⟩
    · exact ⟨_, cap, rfl⟩
  have kw : Whole w1 b 154 #[.pointer (some ⟨b, 0, none⟩), .slice va l.length vc] := hbk
  have c1 := kw.cell 1
  simp only [List.getElem?_toArray, List.getElem?_cons_succ, List.getElem?_cons_zero] at c1
  have z1 := hb1.size
  have HOWN := Lib.hid hown
  have HNE := Lib.hid hne
  clear hown hne hbk
  go_wp2_with (at_builtin; refine Lib.wpList_append_own_string _ rfl _ _ 152 9 rfl B 5 i0 Tryz.underlying152 Tryz.underlying9 hi hz0 hz1 hz2 _ _ _ rfl HOWN.out s rfl (by unfold maxLen; omega) (by omega) (by omega) ?_; intro v' w2 hown' hgrow _; refine Hid.out ?_)
  refine Lib.hid ?_
  obtain ⟨a2, q2, rfl⟩ := own_slice' hown'
  have kw2 := kw.grown hgrow (fun e => HNE.out e.symm)
  have d1 := kw2.cell 1
  have f1 := kw2.frozen 1
  simp only [List.getElem?_toArray, List.getElem?_cons_succ, List.getElem?_cons_zero] at d1
  have HE : Hid (Lib.BuilderAt 154 5 B b (.pointer (some ⟨b, 0, none⟩)) (Lib.byteCells (l ++ s.data.toList)) (w2.setCell ⟨b, 1, none⟩ (.slice a2 (l.length + s.size) q2)) ∧ Below B w (w2.setCell ⟨b, 1, none⟩ (.slice a2 (l.length + s.size) q2)) ∧ Kept b w (w2.setCell ⟨b, 1, none⟩ (.slice a2 (l.length + s.size) q2))) := Lib.hid
    ⟨Lib.BuilderAt.put hB kw2 (by rw [Lib.byteCells_length, List.length_append, bytes_app, ← Lib.size_eq s]; exact hown') (by decide), (hb1.grown hgrow (by omega) (fun k hk => (HOWN.out.lt k hk).1)).setCell hB _, fun g t cs hg ht hw => ((HK1.out g t cs hg ht hw).grown hgrow (own_whole HOWN.out (HK1.out g t cs hg ht hw) (Ne.symm ht))).far hg _⟩
  clear hown' hgrow kw kw2
  go_wp2
  go_ret2
  exact ⟨rfl, .inr HE.out.1, HE.out.2.1, HE.out.2.2⟩
end Go.Proofs.YtgnbkepdbdgkdaaGreatDoor
/- Plain facts about splitting a string at commas, and about reading a set off its string; nothing here is about a program. -/
namespace Go.Proofs.YtgnbkepdbdgkdaaGreatDoor.Pl
open Go Go.Lib

/-- the parts of a string between its commas -/
def parts : List UInt8 → List (List UInt8)
  | [] => [[]]
  | c :: r => if c = 44 then [] :: parts r else match parts r with | [] => [[c]] | p :: ps => (c :: p) :: ps
theorem parts_ne (l : List UInt8) : parts l ≠ [] := by
  cases l with
  | nil => simp [parts]
  | cons c r =>
    unfold parts
    split
    · simp
    · split <;> simp
theorem parts_comma (r : List UInt8) : parts (44 :: r) = [] :: parts r := by simp [parts]
theorem parts_other {c : UInt8} (h : c ≠ 44) (r : List UInt8) : ∃ p ps, parts r = p :: ps ∧ parts (c :: r) = (c :: p) :: ps := by
  cases e : parts r with
  | nil => exact absurd e (parts_ne r)
  | cons p ps => exact ⟨p, ps, rfl, by simp [parts, h, e]⟩
theorem parts_none : ∀ l : List UInt8, indexByte l 44 < 0 → parts l = [l]
  | [], _ => rfl
  | c :: r, h => by
    unfold indexByte at h
    have hg := indexByte_ge r 44
    by_cases hc : c = 44
    · rw [if_pos (by simp [hc])] at h; omega
    · rw [if_neg (by simp [hc])] at h
      by_cases hr : indexByte r 44 = -1
      · obtain ⟨p, ps, h1, h2⟩ := parts_other hc r
        rw [parts_none r (by omega)] at h1
        cases h1
        exact h2
      · rw [if_neg (by simpa using hr)] at h; omega
theorem parts_some : ∀ (l : List UInt8) (i : Nat), indexByte l 44 = i → i < l.length ∧ parts l = l.take i :: parts (l.drop (i + 1))
  | [], i, h => by unfold indexByte at h; omega
  | c :: r, i, h => by
    unfold indexByte at h
    have hg := indexByte_ge r 44
    by_cases hc : c = 44
    · rw [if_pos (by simp [hc])] at h
      obtain rfl : i = 0 := by omega
      subst hc
      exact ⟨by simp, by simp [parts_comma]⟩
    · rw [if_neg (by simp [hc])] at h
      by_cases hr : indexByte r 44 = -1
      · rw [if_pos (by simpa using hr)] at h; omega
      · rw [if_neg (by simpa using hr)] at h
        obtain ⟨j, rfl⟩ : ∃ j, i = j + 1 := ⟨i - 1, by omega⟩
        obtain ⟨h1, h2⟩ := parts_some r j (by omega)
        obtain ⟨p, ps, h3, h4⟩ := parts_other hc r
        rw [h2] at h3
        cases h3
        exact ⟨by simp; omega, by rw [h4]; simp⟩
theorem join_parts : ∀ l : List UInt8, join (parts l) [44] = l
  | [] => by simp [parts, join_one]
  | c :: r => by
    have ih := join_parts r
    by_cases hc : c = 44
    · subst hc
      rw [parts_comma]
      cases e : parts r with
      | nil => exact absurd e (parts_ne r)
      | cons p ps =>
        rw [e, join_cons] at ih
        rw [join_cons, List.nil_append]
        simp [joinTail] at ih ⊢
        exact ih
    · obtain ⟨p, ps, h1, h2⟩ := parts_other hc r
      rw [h1, join_cons] at ih
      rw [h2, join_cons, List.cons_append, ih]
theorem parts_plain : ∀ x : List UInt8, (44 : UInt8) ∉ x → parts x = [x]
  | [], _ => rfl
  | c :: r, h => by
    have hc : c ≠ 44 := fun e => h (by simp [e])
    obtain ⟨p, ps, h1, h2⟩ := parts_other hc r
    rw [parts_plain r (fun hm => h (by simp [hm]))] at h1
    cases h1
    exact h2
theorem parts_app : ∀ (x l : List UInt8), (44 : UInt8) ∉ x → parts (x ++ 44 :: l) = x :: parts l
  | [], l, _ => parts_comma l
  | c :: r, l, h => by
    have hc : c ≠ 44 := fun e => h (by simp [e])
    obtain ⟨p, ps, h1, h2⟩ := parts_other hc (r ++ 44 :: l)
    rw [parts_app r l (fun hm => h (by simp [hm]))] at h1
    cases h1
    exact h2
theorem parts_join : ∀ xs : List (List UInt8), xs ≠ [] → (∀ x ∈ xs, (44 : UInt8) ∉ x) → parts (join xs [44]) = xs
  | [], h, _ => absurd rfl h
  | [x], _, h => by rw [join_one]; exact parts_plain x (h x (by simp))
  | x :: y :: r, _, h => by
    have ih := parts_join (y :: r) (by simp) (fun z hz => h z (List.mem_cons_of_mem _ hz))
    have e : join (x :: y :: r) [44] = x ++ 44 :: join (y :: r) [44] := by
      rw [join_cons, join_cons]
      simp [joinTail]
    rw [e, parts_app x _ (h x (by simp)), ih]

/-! ### reading a set off the names of its members -/
/-- one name more: the place behind it, and the set with it; none: it is not among the later names -/
def stepP (ss : List ByteArray) (q : Option (Nat × Nat)) (p : ByteArray) : Option (Nat × Nat) :=
  q.bind fun x => if idxOfS (ss.drop x.1) p < 0 then none else some (x.1 + (idxOfS (ss.drop x.1) p).toNat + 1, x.2 ||| 2 ^ (x.1 + (idxOfS (ss.drop x.1) p).toNat))
def foldP (ss : List ByteArray) (q : Option (Nat × Nat)) (ps : List ByteArray) : Option (Nat × Nat) := ps.foldl (stepP ss) q
theorem foldP_snoc (ss : List ByteArray) (q : Option (Nat × Nat)) (ps : List ByteArray) (p : ByteArray) : foldP ss q (ps ++ [p]) = stepP ss (foldP ss q ps) p := by simp [foldP]
theorem foldP_none (ss : List ByteArray) (ps : List ByteArray) : foldP ss none ps = none := by
  induction ps with
  | nil => rfl
  | cons p r ih => exact ih
theorem stepP_bad {ss : List ByteArray} {nx st : Nat} {p : ByteArray} (h : idxOfS (ss.drop nx) p < 0) : stepP ss (some (nx, st)) p = none := by simp [stepP, h]
theorem stepP_good {ss : List ByteArray} {nx st k : Nat} {p : ByteArray} (h : idxOfS (ss.drop nx) p = k) : stepP ss (some (nx, st)) p = some (nx + k + 1, st ||| 2 ^ (nx + k)) := by
  have h0 : ¬ (k : Int) < 0 := by omega
  simp [stepP, h, h0]

theorem idx_at (ss : List ByteArray) (p : ByteArray) (k : Nat) (h : idxOfS ss p = k) : k < ss.length ∧ at_ ss k = p ∧ ∀ j, j < k → at_ ss j ≠ p := by
  have gen : ∀ (zs : List ByteArray) (i k : Nat), idxFromS zs p i = ((i + k : Nat) : Int) → k < zs.length ∧ zs.getD k ByteArray.empty = p ∧ ∀ j, j < k → zs.getD j ByteArray.empty ≠ p := by
    intro zs
    induction zs with
    | nil => intro i k h; simp [idxFromS] at h; omega
    | cons z r ih =>
      intro i k h
      unfold idxFromS at h
      by_cases hz : z = p
      · rw [if_pos hz] at h
        obtain rfl : k = 0 := by omega
        exact ⟨by simp, by simpa using hz, fun j hj => absurd hj (Nat.not_lt_zero _)⟩
      · rw [if_neg hz] at h
        cases k with
        | zero =>
          have : ∀ (zs : List ByteArray) (i : Nat), idxFromS zs p i = -1 ∨ (i : Int) ≤ idxFromS zs p i := by
            intro zs
            induction zs with
            | nil => intro i; exact .inl rfl
            | cons y r ih =>
              intro i
              unfold idxFromS
              split
              · exact .inr (Int.le_refl _)
              · rcases ih (i + 1) with h | h
                · exact .inl h
                · exact .inr (by omega)
          rcases this r (i + 1) with h' | h' <;> omega
        | succ k =>
          obtain ⟨h1, h2, h3⟩ := ih (i + 1) k (by rw [h]; congr 1; omega)
          refine ⟨by simp; omega, by simpa using h2, fun j hj => ?_⟩
          cases j with
          | zero => simpa using hz
          | succ j => simpa using h3 j (by omega)
  have := gen ss 0 k (by unfold idxOfS at h; rw [h]; simp)
  exact this
theorem at_drop (ss : List ByteArray) (nx k : Nat) : at_ (ss.drop nx) k = at_ ss (nx + k) := by simp [at_, List.getD]

/-- increasing numbers from nx on, below n -/
def Inc (nx n : Nat) (ks : List Nat) : Prop := (∀ k ∈ ks, nx ≤ k ∧ k < n) ∧ ks.Pairwise (· < ·)
theorem Inc.cons {nx n k : Nat} {ks : List Nat} (h1 : nx ≤ k) (h2 : k < n) (h : Inc (k + 1) n ks) : Inc nx n (k :: ks) :=
  ⟨fun j hj => by
    rcases List.mem_cons.1 hj with rfl | hj
    · exact ⟨h1, h2⟩
    · have := h.1 j hj; omega, List.pairwise_cons.2 ⟨fun j hj => by have := h.1 j hj; omega, h.2⟩⟩
theorem Inc.tail {nx n k : Nat} {ks : List Nat} (h : Inc nx n (k :: ks)) : Inc (k + 1) n ks :=
  ⟨fun j hj => by
    have h1 := h.1 j (by simp [hj])
    have h2 := (List.pairwise_cons.1 h.2).1 j hj
    omega, (List.pairwise_cons.1 h.2).2⟩
def orL (st : Nat) (ks : List Nat) : Nat := ks.foldl (fun x k => x ||| 2 ^ k) st
theorem orL_bit (k : Nat) : ∀ (ks : List Nat) (st : Nat), (orL st ks).testBit k = (st.testBit k || decide (k ∈ ks))
  | [], st => by simp [orL]
  | j :: ks, st => by
    have ih := orL_bit k ks (st ||| 2 ^ j)
    have e : orL st (j :: ks) = orL (st ||| 2 ^ j) ks := rfl
    have hd : decide (k ∈ j :: ks) = (decide (j = k) || decide (k ∈ ks)) := by
      rw [Bool.eq_iff_iff, Bool.or_eq_true, decide_eq_true_eq, decide_eq_true_eq, decide_eq_true_eq, List.mem_cons]
      exact ⟨fun h => h.elim (fun h => .inl h.symm) .inr, fun h => h.elim (fun h => .inl h.symm) .inr⟩
    rw [e, ih, Nat.testBit_or, Nat.testBit_two_pow, Bool.or_assoc, hd]
theorem inc_filter : ∀ (m nx : Nat) (ks : List Nat), Inc nx (nx + m) ks → (List.range' nx m).filter (fun k => decide (k ∈ ks)) = ks
  | 0, nx, ks, h => by
    cases ks with
    | nil => rfl
    | cons k r => have := h.1 k (by simp); omega
  | m + 1, nx, ks, h => by
    rw [List.range'_succ, List.filter_cons]
    cases ks with
    | nil => simp
    | cons k r =>
      by_cases e : k = nx
      · subst e
        rw [if_pos (by simp)]
        congr 1
        have hr := inc_filter m (k + 1) r (by have := h.tail; rwa [show k + (m + 1) = k + 1 + m from by omega] at this)
        refine Eq.trans (List.filter_congr fun j hj => ?_) hr
        have hj' : k + 1 ≤ j := by rw [List.mem_range'_1] at hj; exact hj.1
        rw [Bool.eq_iff_iff]
        simp
        omega
      · have hk := h.1 k (by simp)
        have hn : ¬ nx ∈ k :: r := fun hm => by
          rcases List.mem_cons.1 hm with h1 | h1
          · omega
          · have := (List.pairwise_cons.1 h.2).1 nx h1; omega
        rw [if_neg (by simpa using hn)]
        exact inc_filter m (nx + 1) (k :: r) ⟨fun j hj => by
          have h1 := h.1 j hj
          have h2 : j ≠ nx := fun e => hn (e ▸ hj)
          omega, h.2⟩
theorem memL_or {ks : List Nat} (h : Inc 0 8 ks) : memL (orL 0 ks) = ks := by
  unfold memL
  have e := inc_filter 8 0 ks (by simpa using h)
  rw [← List.range_eq_range'] at e
  refine Eq.trans (List.filter_congr fun k _ => ?_) e
  rw [orL_bit]
  simp
theorem or_memL : ∀ y, y < 256 → orL 0 (memL y) = y := by decide +kernel
theorem memL_inc {y n : Nat} (hy : y < 2 ^ n) : Inc 0 n (memL y) := by
  refine ⟨fun k hk => ⟨Nat.zero_le _, ?_⟩, ?_⟩
  · have hb : y.testBit k = true := by
      unfold memL at hk
      rw [List.mem_filter] at hk
      exact hk.2
    have h1 := Nat.ge_two_pow_of_testBit hb
    rcases Nat.lt_or_ge k n with h | h
    · exact h
    · have := Nat.pow_le_pow_right (n := 2) (by decide) h
      omega
  · unfold memL
    exact List.Pairwise.sublist List.filter_sublist List.pairwise_lt_range
theorem orL_lt {n : Nat} : ∀ (ks : List Nat) (st : Nat), st < 2 ^ n → (∀ k ∈ ks, k < n) → orL st ks < 2 ^ n
  | [], _, h, _ => h
  | k :: r, st, h, hk => orL_lt r _ (Nat.or_lt_two_pow h (Nat.pow_lt_pow_right (by decide) (hk k (by simp)))) (fun j hj => hk j (by simp [hj]))

/-- what is read: increasing places of the names -/
theorem fold_sound (ss : List ByteArray) : ∀ (ps : List ByteArray) (nx st nx' st' : Nat), foldP ss (some (nx, st)) ps = some (nx', st') →
    ∃ ks, Inc nx ss.length ks ∧ ps = ks.map (at_ ss) ∧ st' = orL st ks
  | [], nx, st, nx', st', h => by
    simp [foldP] at h
    exact ⟨[], ⟨fun k hk => by simp at hk, List.Pairwise.nil⟩, rfl, h.2.symm⟩
  | p :: r, nx, st, nx', st', h => by
    have h' : foldP ss (stepP ss (some (nx, st)) p) r = some (nx', st') := h
    by_cases hi : idxOfS (ss.drop nx) p < 0
    · rw [stepP_bad hi, foldP_none] at h'; cases h'
    · obtain ⟨k, hk⟩ := Int.eq_ofNat_of_zero_le (show 0 ≤ idxOfS (ss.drop nx) p by omega)
      rw [stepP_good hk] at h'
      obtain ⟨ks, h1, h2, h3⟩ := fold_sound ss r _ _ _ _ h'
      obtain ⟨a1, a2, _⟩ := idx_at _ _ _ hk
      rw [List.length_drop] at a1
      rw [at_drop] at a2
      exact ⟨(nx + k) :: ks, Inc.cons (by omega) (by omega) h1, by rw [List.map_cons, a2, ← h2], h3⟩
theorem fold_complete (ss : List ByteArray) (hd : ∀ k, k < ss.length → containsS (ss.take k) (at_ ss k) = false) : ∀ (ks : List Nat) (nx st : Nat), Inc nx ss.length ks →
    ∃ nx', foldP ss (some (nx, st)) (ks.map (at_ ss)) = some (nx', orL st ks)
  | [], nx, st, _ => ⟨nx, rfl⟩
  | k :: r, nx, st, h => by
    have hk := h.1 k (by simp)
    have hi : idxOfS (ss.drop nx) (at_ ss k) = ((k - nx : Nat) : Int) := by
      have hx := (idx_first ss k hk.2).2 (hd k hk.2)
      obtain ⟨_, _, hne⟩ := idx_at _ _ _ hx
      have := idxOfS_hit (ss.drop nx) (ss.drop nx).length (k - nx) (at_ ss k) (by rw [List.length_drop]; omega) (Nat.le_refl _)
        (by have := at_drop ss nx (k - nx); unfold at_ at this ⊢; rw [this]; congr 1; omega)
        (fun j hj => by have := at_drop ss nx j; unfold at_ at this; rw [this]; exact hne _ (by omega))
      rwa [List.take_length] at this
    have hs : foldP ss (some (nx, st)) ((k :: r).map (at_ ss)) = foldP ss (stepP ss (some (nx, st)) (at_ ss k)) (r.map (at_ ss)) := rfl
    rw [hs, stepP_good hi, show nx + (k - nx) + 1 = k + 1 from by omega, show nx + (k - nx) = k from by omega]
    exact fold_complete ss hd r (k + 1) _ h.tail

def mk (l : List UInt8) : ByteArray := ⟨l.toArray⟩
theorem mk_data (l : List UInt8) : (mk l).data.toList = l := by simp [mk]
theorem mk_of (s : ByteArray) : mk s.data.toList = s := by simp [mk]
/-- the set that a text between braces is the string of -/
def innerO (ss : List ByteArray) (u : List UInt8) : Option Nat := if u = [] then some 0 else (foldP ss (some (0, 0)) ((parts u).map mk)).map (·.2)
/-- the set whose string s is -/
def parseO (ss : List ByteArray) (s : List UInt8) : Option Nat :=
  if hasPrefix s [123] && hasSuffix (trimPrefix s [123]) [125] then innerO ss (trimSuffix (trimPrefix s [123]) [125]) else none

theorem no_comma {s : ByteArray} (h : nameB s = true) : (44 : UInt8) ∉ s.data.toList := by
  intro hm
  obtain ⟨k, hk, he⟩ := List.getElem_of_mem hm
  have h4 := ((nameB_iff s).1 h).2.2.2 k (by simpa using hk)
  unfold byteAt at h4
  rw [List.getD_eq_getElem?_getD, List.getElem?_eq_getElem hk, he] at h4
  revert h4
  decide
theorem name_ne {s : ByteArray} (h : nameB s = true) : s.data.toList ≠ [] := by
  intro e
  have h1 := ((nameB_iff s).1 h).1
  have h2 : s.size = s.data.toList.length := by simp
  rw [h2, e] at h1
  simp at h1
theorem inner_sound {ss : List ByteArray} (hn : ss.length ≤ 8) {u : List UInt8} {y : Nat} (h : innerO ss u = some y) : y < 2 ^ ss.length ∧ setS ss y = [123] ++ u ++ [125] := by
  unfold innerO at h
  split at h
  · rename_i hu
    cases h
    subst hu
    exact ⟨Nat.two_pow_pos _, by simp [setS, show memL 0 = [] from by decide, join_nil]⟩
  · rw [Option.map_eq_some_iff] at h
    obtain ⟨⟨nx', y'⟩, hf, rfl⟩ := h
    obtain ⟨ks, h1, h2, h3⟩ := fold_sound ss _ _ _ _ _ hf
    have hks : Inc 0 8 ks := ⟨fun k hk => by have := h1.1 k hk; omega, h1.2⟩
    have e : (ks.map fun k => (at_ ss k).data.toList) = parts u := by
      have := congrArg (List.map fun s : ByteArray => s.data.toList) h2
      rw [List.map_map, List.map_map] at this
      have e1 : (parts u).map ((fun s : ByteArray => s.data.toList) ∘ mk) = parts u := by
        have : ((fun s : ByteArray => s.data.toList) ∘ mk) = id := by funext l; exact mk_data l
        rw [this, List.map_id]
      rw [e1] at this
      exact this.symm
    refine ⟨?_, ?_⟩
    · show y' < _
      rw [h3]
      exact orL_lt ks 0 (Nat.two_pow_pos _) (fun k hk => (h1.1 k hk).2)
    · show setS ss y' = _
      unfold setS
      rw [h3, memL_or hks, e, join_parts]
theorem inner_complete {ss : List ByteArray} (ha : actsB ss = true) {y : Nat} (hy : y < 2 ^ ss.length) : innerO ss (join ((memL y).map fun k => (at_ ss k).data.toList) [44]) = some y := by
  have hn := ((actsB_iff ss).1 ha).1
  have hd := ((actsB_iff ss).1 ha).2
  have hinc := memL_inc hy
  have h256 : y < 256 := by
    have : 2 ^ ss.length ≤ 2 ^ 8 := Nat.pow_le_pow_right (by decide) hn
    omega
  have ho := or_memL y h256
  unfold innerO
  cases hm : memL y with
  | nil =>
    rw [hm] at ho
    rw [if_pos (by simp [join_nil]), ← ho]
    rfl
  | cons k r =>
    have hin : ∀ j ∈ memL y, nameB (at_ ss j) = true := fun j hj => (hd j (hinc.1 j hj).2).1
    have hu : join ((k :: r).map fun k => (at_ ss k).data.toList) [44] ≠ [] := by
      rw [List.map_cons, join_cons]
      intro e
      exact name_ne (hin k (by rw [hm]; simp)) (List.append_eq_nil_iff.1 e).1
    rw [if_neg hu, parts_join _ (by simp) (fun x hx => by
      rw [List.mem_map] at hx
      obtain ⟨j, hj, rfl⟩ := hx
      exact no_comma (hin j (by rw [hm]; exact hj))), List.map_map]
    have e : (mk ∘ fun k => (at_ ss k).data.toList) = at_ ss := by funext k; exact mk_of _
    rw [e, ← hm]
    obtain ⟨nx', hf⟩ := fold_complete ss (fun k hk => (hd k hk).2) (memL y) 0 0 hinc
    rw [hf, ho]
    rfl
theorem braces_cut (s : List UInt8) (h1 : hasPrefix s [123] = true) (h2 : hasSuffix (trimPrefix s [123]) [125] = true) : s = [123] ++ trimSuffix (trimPrefix s [123]) [125] ++ [125] := by
  unfold hasPrefix at h1
  rw [List.isPrefixOf_iff_prefix] at h1
  obtain ⟨t, rfl⟩ := h1
  have e : trimPrefix ([123] ++ t) [123] = t := by simp [trimPrefix, hasPrefix]
  rw [e] at h2 ⊢
  have h2' := h2
  unfold hasSuffix at h2'
  rw [List.isSuffixOf_iff_suffix] at h2'
  obtain ⟨u, rfl⟩ := h2'
  have e2 : trimSuffix (u ++ [125]) [125] = u := by unfold trimSuffix; rw [if_pos h2]; simp
  rw [e2, List.append_assoc]
theorem braces_made (u : List UInt8) : hasPrefix ([123] ++ u ++ [125]) [123] = true ∧ hasSuffix (trimPrefix ([123] ++ u ++ [125]) [123]) [125] = true ∧ trimSuffix (trimPrefix ([123] ++ u ++ [125]) [123]) [125] = u := by
  have h1 : hasPrefix ([123] ++ u ++ [125]) [123] = true := by simp [hasPrefix]
  have e : trimPrefix ([123] ++ u ++ [125]) [123] = u ++ [125] := by unfold trimPrefix; rw [if_pos h1]; simp
  have h2 : hasSuffix (u ++ [125]) [125] = true := by unfold hasSuffix; rw [List.isSuffixOf_iff_suffix]; exact ⟨u, rfl⟩
  refine ⟨h1, by rw [e]; exact h2, ?_⟩
  rw [e]; unfold trimSuffix; rw [if_pos h2]; simp
theorem parse_iff {ss : List ByteArray} (ha : actsB ss = true) (s : List UInt8) (y : Nat) : parseO ss s = some y ↔ y < 2 ^ ss.length ∧ s = setS ss y := by
  have hn := ((actsB_iff ss).1 ha).1
  unfold parseO
  constructor
  · intro h
    split at h
    · rename_i hp
      rw [Bool.and_eq_true] at hp
      obtain ⟨h1, h2⟩ := inner_sound hn h
      exact ⟨h1, (braces_cut s hp.1 hp.2).trans h2.symm⟩
    · cases h
  · rintro ⟨h1, rfl⟩
    obtain ⟨a1, a2, a3⟩ := braces_made (join ((memL y).map fun k => (at_ ss k).data.toList) [44])
    unfold setS
    rw [a1, a2, a3]
    exact inner_complete ha h1
end Go.Proofs.YtgnbkepdbdgkdaaGreatDoor.Pl
/- Plain facts about the string of a system: its lines, its words, and how it is read back; nothing here is about a program. -/
namespace Go.Proofs.YtgnbkepdbdgkdaaGreatDoor.Pl
open Go Go.Lib

/-! ### the parts of a string between some bytes -/
def sp (c : UInt8) : List UInt8 → List (List UInt8)
  | [] => [[]]
  | x :: r => if x = c then [] :: sp c r else match sp c r with | [] => [[x]] | p :: ps => (x :: p) :: ps
theorem sp_ne (c : UInt8) (l : List UInt8) : sp c l ≠ [] := by
  cases l with
  | nil => simp [sp]
  | cons x r =>
    unfold sp
    split
    · simp
    · split <;> simp
theorem sp_at (c : UInt8) (r : List UInt8) : sp c (c :: r) = [] :: sp c r := by simp [sp]
theorem sp_other {c x : UInt8} (h : x ≠ c) (r : List UInt8) : ∃ p ps, sp c r = p :: ps ∧ sp c (x :: r) = (x :: p) :: ps := by
  cases e : sp c r with
  | nil => exact absurd e (sp_ne c r)
  | cons p ps => exact ⟨p, ps, rfl, by simp [sp, h, e]⟩
theorem sp_plain (c : UInt8) : ∀ x : List UInt8, c ∉ x → sp c x = [x]
  | [], _ => rfl
  | y :: r, h => by
    have hc : y ≠ c := fun e => h (by simp [e])
    obtain ⟨p, ps, h1, h2⟩ := sp_other hc r
    rw [sp_plain c r (fun hm => h (by simp [hm]))] at h1
    cases h1
    exact h2
theorem sp_app (c : UInt8) : ∀ (x l : List UInt8), c ∉ x → sp c (x ++ c :: l) = x :: sp c l
  | [], l, _ => sp_at c l
  | y :: r, l, h => by
    have hc : y ≠ c := fun e => h (by simp [e])
    obtain ⟨p, ps, h1, h2⟩ := sp_other hc (r ++ c :: l)
    rw [sp_app c r l (fun hm => h (by simp [hm]))] at h1
    cases h1
    exact h2
theorem sp_join (c : UInt8) : ∀ xs : List (List UInt8), xs ≠ [] → (∀ x ∈ xs, c ∉ x) → sp c (join xs [c]) = xs
  | [], h, _ => absurd rfl h
  | [x], _, h => by rw [join_one]; exact sp_plain c x (h x (by simp))
  | x :: y :: r, _, h => by
    have ih := sp_join c (y :: r) (by simp) (fun z hz => h z (List.mem_cons_of_mem _ hz))
    have e : join (x :: y :: r) [c] = x ++ c :: join (y :: r) [c] := by
      rw [join_cons, join_cons]
      simp [joinTail]
    rw [e, sp_app c x _ (h x (by simp)), ih]
theorem sp_miss (c : UInt8) : ∀ l : List UInt8, index l [c] = -1 → sp c l = [l] := fun l h => by
  rw [index_one] at h
  refine sp_plain c l ?_
  induction l with
  | nil => simp
  | cons x r ih =>
    unfold indexByte at h
    have hg := indexByte_ge r c
    by_cases hc : x = c
    · rw [if_pos (by simp [hc])] at h; omega
    · rw [if_neg (by simp [hc])] at h
      by_cases hr : indexByte r c = -1
      · intro hm
        rcases List.mem_cons.1 hm with h1 | h1
        · exact hc h1.symm
        · exact ih hr h1
      · rw [if_neg (by simpa using hr)] at h; omega
theorem byte_hit (c : UInt8) : ∀ (l : List UInt8) (i : Nat), indexByte l c = i → i < l.length ∧ c ∉ l.take i ∧ l = l.take i ++ c :: l.drop (i + 1)
  | [], i, h => by unfold indexByte at h; omega
  | x :: r, i, h => by
    unfold indexByte at h
    have hg := indexByte_ge r c
    by_cases hc : x = c
    · rw [if_pos (by simp [hc])] at h
      obtain rfl : i = 0 := by omega
      subst hc
      exact ⟨by simp, by simp, by simp⟩
    · rw [if_neg (by simp [hc])] at h
      by_cases hr : indexByte r c = -1
      · rw [if_pos (by simpa using hr)] at h; omega
      · rw [if_neg (by simpa using hr)] at h
        obtain ⟨j, rfl⟩ : ∃ j, i = j + 1 := ⟨i - 1, by omega⟩
        obtain ⟨h1, h2, h3⟩ := byte_hit c r j (by omega)
        refine ⟨by simp; omega, ?_, ?_⟩
        · intro hm
          rw [List.take_succ_cons] at hm
          rcases List.mem_cons.1 hm with h4 | h4
          · exact hc h4.symm
          · exact h2 h4
        · rw [List.take_succ_cons, List.drop_succ_cons, List.cons_append, ← h3]
theorem sp_hit (c : UInt8) (l : List UInt8) (i : Nat) (h : index l [c] = i) : i < l.length ∧ sp c l = l.take i :: sp c (l.drop (i + 1)) := by
  rw [index_one] at h
  obtain ⟨h1, h2, h3⟩ := byte_hit c l i h
  refine ⟨h1, ?_⟩
  conv => lhs; rw [h3]
  exact sp_app c _ _ h2
theorem split_sp (c : UInt8) : ∀ (n : Nat) (l : List UInt8), l.length ≤ n → splitK [c] 0 (count l [c]) l = sp c l := by
  intro n
  induction n with
  | zero =>
    intro l h
    have : l = [] := List.length_eq_zero_iff.1 (by omega)
    subst this
    rfl
  | succ n ih =>
    intro l hl
    by_cases hm : index l [c] = -1
    · rw [count_miss hm, sp_miss c l hm]; rfl
    · obtain ⟨i, hi⟩ : ∃ i : Nat, index l [c] = i := by
        have hg := indexByte_ge l c
        rw [← index_one] at hg
        exact Int.eq_ofNat_of_zero_le (by omega)
      obtain ⟨h1, h2⟩ := sp_hit c l i hi
      rw [count_hit (by simp) hi, Nat.add_comm 1, splitK, if_neg (by simpa using hm), hi, h2]
      simp only [Int.toNat_natCast, Nat.add_zero, List.length_cons, List.length_nil, Nat.zero_add]
      rw [ih _ (by rw [List.length_drop]; omega)]

/-! ### numbers -/
theorem dec_split (n : Nat) : decDigits n = (if n < 10 then [] else decDigits (n / 10)) ++ [UInt8.ofNat (48 + n % 10)] := by
  rw [decDigits]
  by_cases h : n < 10
  · rw [dif_pos h, if_pos h, Nat.mod_eq_of_lt h]; rfl
  · rw [dif_neg h, if_neg h]
def digB (c : UInt8) : Bool := decide (48 ≤ c.toNat) && decide (c.toNat ≤ 57)
theorem digB_iff (c : UInt8) : digB c = true ↔ 48 ≤ c.toNat ∧ c.toNat ≤ 57 := by simp [digB]
theorem dig_of (d : Nat) (h : d < 10) : (UInt8.ofNat (48 + d)).toNat = 48 + d := by
  rw [UInt8.toNat_ofNat']; omega
/-- what digits spell -/
def decV (l : List UInt8) : Nat := l.foldl (fun n c => 10 * n + (c.toNat - 48)) 0
theorem decV_snoc (l : List UInt8) (c : UInt8) : decV (l ++ [c]) = 10 * decV l + (c.toNat - 48) := by simp [decV]
theorem dec_facts (n : Nat) : (decDigits n).all digB = true ∧ decV (decDigits n) = n ∧ decDigits n ≠ [] ∧ (1 < (decDigits n).length → (decDigits n).head? ≠ some 48) := by
  induction n using Nat.strongRecOn with
  | ind n ih =>
    rw [dec_split]
    by_cases h : n < 10
    · rw [if_pos h, List.nil_append, Nat.mod_eq_of_lt h]
      have e := dig_of n h
      refine ⟨?_, ?_, by simp, by simp⟩
      · rw [List.all_cons, List.all_nil, Bool.and_true, digB_iff, e]; omega
      · simp only [decV, List.foldl_cons, List.foldl_nil, e]; omega
    · rw [if_neg h]
      obtain ⟨i1, i2, i3, i4⟩ := ih (n / 10) (by omega)
      have e := dig_of (n % 10) (by omega)
      refine ⟨?_, ?_, by simp, fun _ => ?_⟩
      · rw [List.all_append, i1, List.all_cons, List.all_nil, Bool.and_true, Bool.true_and, digB_iff, e]; omega
      · rw [decV_snoc, i2, e]; omega
      · cases hd : decDigits (n / 10) with
        | nil => exact absurd hd i3
        | cons x r =>
          rw [List.cons_append, List.head?_cons]
          rw [hd] at i4
          cases r with
          | nil =>
            -- one digit: it is that of n / 10, which is not 0
            intro hx
            cases hx
            have : decV (decDigits (n / 10)) = 0 := by rw [hd]; rfl
            omega
          | cons y r => exact i4 (by simp)
/-- the number of a string, at most the greatest int -/
def numV (l : List UInt8) : Option Int :=
  if l = [] then none else if 1 < l.length ∧ l.head? = some 48 then none else if l.all digB = true then some (min (decV l : Int) 9223372036854775807) else none
theorem numV_dec (n : Nat) (h : n ≤ 9223372036854775807) : numV (decDigits n) = some (n : Int) := by
  obtain ⟨h1, h2, h3, h4⟩ := dec_facts n
  unfold numV
  rw [if_neg h3, if_neg (fun hh => h4 hh.1 hh.2), if_pos h1, h2]
  congr 1
  omega
theorem numV_nil : numV [] = none := rfl
theorem numV_lead {l : List UInt8} (h1 : 1 < l.length) (h2 : l.head? = some 48) : numV l = none := by
  unfold numV
  split
  · rfl
  · rw [if_pos ⟨h1, h2⟩]
theorem numV_bad {l : List UInt8} (h : l.all digB = false) : numV l = none := by
  unfold numV
  split
  · rfl
  · split
    · rfl
    · rw [if_neg (by rw [h]; simp)]
theorem numV_good {l : List UInt8} (h0 : l ≠ []) (h1 : ¬ (1 < l.length ∧ l.head? = some 48)) (h2 : l.all digB = true) : numV l = some (min (decV l : Int) 9223372036854775807) := by
  unfold numV
  rw [if_neg h0, if_neg h1, if_pos h2]
theorem numV_range {l : List UInt8} {x : Int} (h : numV l = some x) : 0 ≤ x ∧ x ≤ 9223372036854775807 := by
  unfold numV at h
  split at h
  · cases h
  · split at h
    · cases h
    · split at h
      · cases h
        omega
      · cases h

/-! ### strconv.Atoi at digits -/
theorem uint_digits : ∀ (l : List UInt8) (acc : Nat), l.all digB = true → acc < 18446744073709551616 →
    (parseUint10 acc l = .ok (l.foldl (fun n c => 10 * n + (c.toNat - 48)) acc) ∧ l.foldl (fun n c => 10 * n + (c.toNat - 48)) acc < 18446744073709551616) ∨
      (parseUint10 acc l = .range ∧ 18446744073709551616 ≤ l.foldl (fun n c => 10 * n + (c.toNat - 48)) acc)
  | [], acc, _, ha => .inl ⟨rfl, ha⟩
  | c :: r, acc, h, ha => by
    rw [List.all_cons, Bool.and_eq_true, digB_iff] at h
    have grow : ∀ (r : List UInt8) (a : Nat), a ≤ r.foldl (fun n c => 10 * n + (c.toNat - 48)) a := by
      intro r
      induction r with
      | nil => intro a; exact Nat.le_refl _
      | cons c r ih => intro a; rw [List.foldl_cons]; exact Nat.le_trans (by omega) (ih _)
    rw [List.foldl_cons]
    simp only [parseUint10]
    rw [if_pos h.1]
    have e : acc * 10 + (c.toNat - 48) = 10 * acc + (c.toNat - 48) := by omega
    by_cases h1 : 1844674407370955162 ≤ acc
    · rw [if_pos h1]
      refine .inr ⟨rfl, ?_⟩
      have := grow r (10 * acc + (c.toNat - 48))
      omega
    · rw [if_neg h1, e]
      by_cases h2 : 18446744073709551616 ≤ 10 * acc + (c.toNat - 48)
      · rw [if_pos h2]
        exact .inr ⟨rfl, Nat.le_trans h2 (grow r _)⟩
      · rw [if_neg h2]
        exact uint_digits r _ h.2 (by omega)
/-- what Atoi hands back beside its error, at digits -/
theorem atoi_digits {l : List UInt8} (h0 : l ≠ []) (h : l.all digB = true) :
    (atoiAll l = .ok (min (decV l : Int) 9223372036854775807)) ∨ (atoiAll l = .range ∧ atoiSat l = min (decV l : Int) 9223372036854775807) := by
  cases l with
  | nil => exact absurd rfl h0
  | cons c r =>
    have hc := h
    rw [List.all_cons, Bool.and_eq_true, digB_iff] at hc
    have hu := uint_digits (c :: r) 0 h (by omega)
    have hd : (c :: r).foldl (fun n c => 10 * n + (c.toNat - 48)) 0 = decV (c :: r) := rfl
    rw [hd] at hu
    rw [atoiAll_plain c r (by omega) (by omega), atoiSat_other c r (by omega)]
    have hm : parseMag (c :: r) = parseUint10 0 (c :: r) := by unfold parseMag; rw [if_neg (by simp)]
    rw [hm]
    rcases hu with ⟨h1, h2⟩ | ⟨h1, h2⟩
    · rw [h1]
      unfold signless
      by_cases h3 : 9223372036854775808 ≤ decV (c :: r)
      · right
        simp only [if_pos h3]
        exact ⟨trivial, by omega⟩
      · left
        simp only [if_neg h3]
        congr 1
        omega
    · right
      rw [h1]
      exact ⟨rfl, by omega⟩
end Go.Proofs.YtgnbkepdbdgkdaaGreatDoor.Pl
