/- A row of bytes of the call's own, told by its cells (a conversion's row too): append of a string or of bytes, its string. -/
import Derived.Test.YtlnncklanabbdaaGreatDoorSStr
import Derived.Deep.Upon
import Derived.Lib.ConvBytes
import Derived.Lib.SlBytesRow
namespace Go.Proofs.YtlnncklanabbdaaGreatDoor
open Go.RowKit Pl

def byteV (b : UInt8) : Value := .int .u8 (b.toNat : Int)
/-- the value is a row of these bytes, at or above a block -/
def BRow (B : Nat) (w : World) (v : Value) (l : List UInt8) : Prop :=
  ∃ g cap, v = .slice (some ⟨g, 0, none⟩) l.length cap ∧ B ≤ g ∧ g < w.heap.size ∧ l.length ≤ cap ∧ cap ≤ maxLen ∧
    (∀ j, j < l.length → w.cell? ⟨g, j, none⟩ = some (byteV (l.getD j 0))) ∧ ∀ j, j < cap → (w.cell? ⟨g, j, none⟩).isSome = true ∧ w.frozen? ⟨g, j, none⟩ = false
theorem BRow.below {B : Nat} {w w' : World} {v : Value} {l : List UInt8} (h : BRow B w v l) (hb : Below w.heap.size w w') : BRow B w' v l := by
  obtain ⟨g, cap, h1, h2, h3, h4, h5, h6, h7⟩ := h
  have e := hb.block g h3
  refine ⟨g, cap, h1, h2, Nat.lt_of_lt_of_le h3 hb.size, h4, h5, fun j hj => ?_, fun j hj => ?_⟩
  · rw [World.cell?_of_block (w := w) (a := ⟨g, j, none⟩) e]; exact h6 j hj
  · rw [World.cell?_of_block (w := w) (a := ⟨g, j, none⟩) e, World.frozen?_of_block (w := w) (a := ⟨g, j, none⟩) e]; exact h7 j hj
theorem BRow.low {B C : Nat} {w : World} {v : Value} {l : List UInt8} (h : BRow B w v l) (hc : C ≤ B) : BRow C w v l := by
  obtain ⟨g, cap, h1, h2, h3⟩ := h
  exact ⟨g, cap, h1, Nat.le_trans hc h2, h3⟩
theorem BRow.drew {B : Nat} {w : World} {v : Value} {l : List UInt8} (h : BRow B w v l) : BRow B w.drew v l := h
theorem BRow.ge {B : Nat} {w : World} {v : Value} {l : List UInt8} (h : BRow B w v l) : ∀ k, v.ownBlock = some k → B ≤ k := by
  obtain ⟨g, cap, rfl, h2, _⟩ := h
  intro k e
  cases e
  exact h2
theorem BRow.slice {B : Nat} {w : World} {v : Value} {l : List UInt8} (h : BRow B w v l) : ∃ a c, v = .slice a l.length c := by
  obtain ⟨g, cap, h1, _⟩ := h
  exact ⟨_, _, h1⟩
theorem setCells_tape (b : Nat) : ∀ (vs : List Value) (o : Nat) (w : World), (w.setCells b o vs).tape = w.tape ∧ (w.setCells b o vs).heap.size = w.heap.size
  | [], _, _ => ⟨rfl, rfl⟩
  | v :: r, o, w => by
    rw [World.setCells]
    have h := setCells_tape b r (o + 1) (w.setCell ⟨b, o, none⟩ v)
    exact ⟨h.1.trans rfl, h.2.trans (by simp)⟩
theorem setCells_grown (w : World) (g o : Nat) (vs : List Value) : w.grownBy (w.setCells g o vs) (some g) :=
  ⟨World.os_setCells w g o vs, (setCells_tape g vs o w).1, World.output_setCells w g o vs, Nat.le_of_eq (setCells_tape g vs o w).2.symm, fun _ hk hne => World.heap_setCells_other w g o vs hk (fun e => hne (by rw [e]))⟩
theorem getD_app (l k : List UInt8) (j : Nat) : (l ++ k).getD j 0 = if j < l.length then l.getD j 0 else k.getD (j - l.length) 0 := by
  by_cases h : j < l.length
  · rw [if_pos h, List.getD_eq_getElem?_getD, List.getD_eq_getElem?_getD, List.getElem?_append_left h]
  · rw [if_neg h, List.getD_eq_getElem?_getD, List.getD_eq_getElem?_getD, List.getElem?_append_right (by omega)]

theorem run_append_bytes {P : Program} {w : World} {B : Nat} (t tx ty e : TypeId) (i : TypeInfo) (ht : P.underlying t = some (.slice e)) (hi : P.info? e = some i) (hz : i.zero = some (.int .u8 0)) (hsize : i.size = 1) (hby : i.bytes = 1)
    {v : Value} {l : List UInt8} (h : BRow B w v l) (hB : B ≤ w.heap.size) (x : Value) (k : List UInt8) (hs : Src P 1 tx x k.length (k.map byteV) w) (hb : l.length + k.length ≤ 140737488355328) :
    ∃ v' w', (Builtin.append_ #[t, tx] ty #[v, x]).run P w = .ok v' w' ∧ BRow B w' v' (l ++ k) ∧ w.grownBy w' v.ownBlock := by
  obtain ⟨g, cap, rfl, h2, h3, h4, h5, h6, h7⟩ := h
  have hs' : Src P i.size tx x k.length (k.map byteV) w := by rw [hsize]; exact hs
  have hkl : (k.map byteV).length = k.length := List.length_map _
  by_cases hroom : l.length + k.length ≤ cap
  · have hr := run_append_room_src (P := P) w t tx ty e i ht hi g 0 l.length cap x k.length (k.map byteV) hs' hroom
      (fun j hj => by rw [hkl] at hj; rw [hsize, Nat.mul_one, Nat.zero_add]; exact (h7 _ (by omega)).1) (fun j hj => by rw [hkl] at hj; rw [hsize, Nat.mul_one, Nat.zero_add]; exact (h7 _ (by omega)).2)
    rw [hsize, Nat.mul_one, Nat.zero_add] at hr
    refine ⟨_, _, hr, ⟨g, cap, by rw [List.length_append], h2, by rw [(setCells_tape _ _ _ _).2]; exact h3, by rw [List.length_append]; exact hroom, h5, fun j hj => ?_, fun j hj => ?_⟩, setCells_grown _ _ _ _⟩
    · rw [getD_app]
      rw [List.length_append] at hj
      by_cases hjl : j < l.length
      · rw [if_pos hjl, World.cell?_setCells_out g _ _ _ _ (fun _ _ => .inl hjl)]
        exact h6 j hjl
      · rw [if_neg hjl]
        have := World.cell?_setCells_in g (k.map byteV) l.length w (fun q hq => by rw [hkl] at hq; exact (h7 _ (by omega)).1) (j - l.length) (by rw [hkl]; omega)
        rw [show l.length + (j - l.length) = j by omega] at this
        rw [this, List.getElem_map, List.getD_eq_getElem?_getD, List.getElem?_eq_getElem (by omega), Option.getD_some]
    · rw [World.frozen?_setCells]
      exact ⟨World.isSome_setCells g _ _ _ _ (h7 j hj).1, (h7 j hj).2⟩
  · have hold : (Builtin.firstCells i.size l.length (.slice (some ⟨g, 0, none⟩) l.length cap)).run P w.drew = .ok (l.map byteV).toArray w.drew :=
      run_firstCells_some (P := P) w.drew i.size l.length ⟨g, 0, none⟩ l.length cap (l.map byteV) (by rw [hsize, Nat.mul_one, List.length_map]) (fun j u hj => by
        have hjl : j < l.length := by
          have := (List.getElem?_eq_some_iff.1 hj).1
          rwa [List.length_map] at this
        rw [List.getElem?_map, List.getElem?_eq_getElem hjl] at hj
        have e1 := h6 j hjl
        rw [List.getD_eq_getElem?_getD, List.getElem?_eq_getElem hjl, Option.getD_some] at e1
        rw [add_plainly, Nat.zero_add]
        exact e1.trans hj)
    have hr := run_append_grow_src (P := P) w t tx ty e i (.int .u8 0) ht hi hz (some ⟨g, 0, none⟩) l.length cap (l.map byteV) hold x k.length (k.map byteV) hs' (by omega) (by omega) (by rw [hby]; exact growslice_fits (by omega) (by omega))
    have hge := grownCap_ge w (l.length + k.length) cap e
    have hcm := grownCap_le_maxLen w (l.length + k.length) cap e (by simp only [maxLen]; omega)
    obtain ⟨C, hC⟩ : ∃ C, grownCap w (l.length + k.length) cap e = C := ⟨_, rfl⟩
    rw [hC] at hr hge hcm
    have hz1 : (Value.int IntKind.u8 0).cells.size = 1 := rfl
    have hsz : (((l.map byteV ++ k.map byteV).toArray ++ Builtin.zeroCells (Value.int .u8 0).cells (C - (l.length + k.length)))).size = C := by
      simp only [Array.size_append, List.size_toArray, List.length_append, List.length_map, size_zeroCells, hz1]
      omega
    have hcell : ∀ j, (w.drew.alloc (.cells ((l.map byteV ++ k.map byteV).toArray ++ Builtin.zeroCells (Value.int .u8 0).cells (C - (l.length + k.length))) e)).cell? ⟨w.heap.size, j, none⟩ = ((l.map byteV ++ k.map byteV).toArray ++ Builtin.zeroCells (Value.int .u8 0).cells (C - (l.length + k.length)))[j]? :=
      fun j => (Whole.new w.drew e _).cell j
    refine ⟨_, _, hr, ⟨w.heap.size, C, by rw [List.length_append], hB, by simp, by rw [List.length_append]; omega, hcm, fun j hj => ?_, fun j hj => ⟨?_, (Whole.new w.drew e _).frozen j⟩⟩, ⟨rfl, rfl, rfl, by simp, fun q hq _ => heap_alloc_old w.drew _ hq⟩⟩
    · rw [hcell, Array.getElem?_append_left (by rw [List.size_toArray, ← List.map_append, List.length_map]; exact hj), List.getElem?_toArray, ← List.map_append, List.getElem?_map, List.getElem?_eq_getElem hj, List.getD_eq_getElem?_getD, List.getElem?_eq_getElem hj]
      rfl
    · rw [hcell]
      rw [Array.getElem?_eq_getElem (by rw [hsz]; exact hj)]
      rfl

theorem wp_append_bytes {P : Program} {w : World} {o : Oper} {a : Act} {K : Act → World → Prop} {Q : Exit → Act → World → Prop} (s x : Operand) (t tx : TypeId)
    (ho : o.op = .call { callee := .builtin .append, args := #[s, x], argTypes := #[t, tx] }) (B : Nat) (e : TypeId) (i : TypeInfo) (ht : P.underlying t = some (.slice e)) (hi : P.info? e = some i) (hz : i.zero = some (.int .u8 0)) (hsize : i.size = 1) (hby : i.bytes = 1)
    (v : Value) (hv : a.eval s = v) (l : List UInt8) (h : BRow B w v l) (hB : B ≤ w.heap.size) (xv : Value) (hx : a.eval x = xv) (k : List UInt8) (hs : Src P 1 tx xv k.length (k.map byteV) w) (hb : l.length + k.length ≤ 140737488355328)
    (hK : ∀ v' w', BRow B w' v' (l ++ k) → w.grownBy w' v.ownBlock → K (a.put o.dst v') w') : Oper.wp P o a w K Q := by
  obtain ⟨v', w', hrun, r1, r2⟩ := run_append_bytes (P := P) (w := w) t tx o.type e i ht hi hz hsize hby h hB xv k hs hb
  unfold Oper.wp
  simp [execOp, ho, resolve, invoke, builtin, hv, hx, hrun, Result.andThen]
  exact hK v' w' r1 r2
theorem step_append_bytes {P : Program} {w : World} {ops : Array Oper} {o : Oper} {a : Act} {K : Act → World → Prop} {Q : Exit → Act → World → Prop} {E : Prop} (hg : o.guard = none) (s x : Operand) (t tx : TypeId)
    (ho : o.op = .call { callee := .builtin .append, args := #[s, x], argTypes := #[t, tx] }) (B : Nat) (e : TypeId) (i : TypeInfo) (ht : P.underlying t = some (.slice e)) (hi : P.info? e = some i) (hz : i.zero = some (.int .u8 0)) (hsize : i.size = 1) (hby : i.bytes = 1)
    (v : Value) (hv : a.eval s = v) (l : List UInt8) (h : BRow B w v l) (hB : B ≤ w.heap.size) (xv : Value) (hx : a.eval x = xv) (k : List UInt8) (hs : Src P 1 tx xv k.length (k.map byteV) w) (hb : l.length + k.length ≤ 140737488355328)
    (hK : ∀ v' w', BRow B w' v' (l ++ k) → w.grownBy w' v.ownBlock → K (a.put o.dst v') w') : if Region.wanted o (yielded ops a.tmps) = true then Oper.wp P o a w K Q else E := by
  rw [if_pos (by simp [Region.wanted, hg])]
  exact wp_append_bytes s x t tx ho B e i ht hi hz hsize hby v hv l h hB xv hx k hs hb hK
theorem wpList_append_bytes {P : Program} {w : World} {ops : Array Oper} {rest : List Oper} {o : Oper} {a : Act} {Q : Exit → Act → World → Prop} (hg : o.guard = none) (s x : Operand) (t tx : TypeId)
    (ho : o.op = .call { callee := .builtin .append, args := #[s, x], argTypes := #[t, tx] }) (B : Nat) (e : TypeId) (i : TypeInfo) (ht : P.underlying t = some (.slice e)) (hi : P.info? e = some i) (hz : i.zero = some (.int .u8 0)) (hsize : i.size = 1) (hby : i.bytes = 1)
    (v : Value) (hv : a.eval s = v) (l : List UInt8) (h : BRow B w v l) (hB : B ≤ w.heap.size) (xv : Value) (hx : a.eval x = xv) (k : List UInt8) (hs : Src P 1 tx xv k.length (k.map byteV) w) (hb : l.length + k.length ≤ 140737488355328)
    (hK : ∀ v' w', BRow B w' v' (l ++ k) → w.grownBy w' v.ownBlock → wpList P ops Q rest (a.put o.dst v') w') : wpList P ops Q (o :: rest) a w :=
  wpList_plain hg fun _ h' => wp_append_bytes s x t tx ho B e i ht hi hz hsize hby v hv l h hB xv hx k hs hb fun v' w' h2 h3 => h' _ _ (hK v' w' h2 h3)

/-- the string of the row -/
theorem BRow.string {B : Nat} {w : World} {v : Value} {l : List UInt8} (h : BRow B w v l) : (convert 88 9 v).run Tryz.prog w = .ok (.string (mk l)) w := by
  obtain ⟨g, cap, rfl, h2, h3, h4, h5, h6, h7⟩ := h
  have h := Lib.run_convert_whole (P := Tryz.prog) w 88 5 9 Tryz.underlying88 Tryz.underlying5 Tryz.underlying9 g 0 (mk l) (fun i hi => by
    rw [mk_size'] at hi
    rw [Nat.zero_add, h6 i hi]
    rw [List.getD_eq_getElem?_getD, List.getElem?_eq_getElem hi]
    rfl) cap
  rw [mk_size'] at h
  exact h
/-- a string's bytes, converted -/
theorem BRow.ofString (w : World) (l : List UInt8) (hl : l.length ≤ 140737488355328) : ∃ v, (convert 9 88 (.string (mk l))).run Tryz.prog w = .ok v (Lib.bytesWorld w 5 (mk l)) ∧ BRow w.heap.size (Lib.bytesWorld w 5 (mk l)) v l ∧ Below w.heap.size w (Lib.bytesWorld w 5 (mk l)) := by
  have hr := Lib.run_convert_string_bytes (P := Tryz.prog) w 9 88 5 (mk l) Tryz.underlying9 Tryz.underlying88 Tryz.underlying5
  have hge := grownCap_ge w (mk l).size 0 5
  have hcm := grownCap_le_maxLen w (mk l).size 0 5 (by rw [mk_size']; simp only [maxLen]; omega)
  have hsz : (Lib.bytesCells w 5 (mk l)).size = grownCap w (mk l).size 0 5 := by
    unfold Lib.bytesCells
    have : (mk l).data.size = (mk l).size := rfl
    simp only [Array.size_append, Array.size_map, Array.size_replicate]
    omega
  have hn := Lib.bytesWorld_at_new w 5 (mk l)
  refine ⟨_, hr, ⟨w.heap.size, _, by rw [mk_size'], Nat.le_refl _, by rw [Lib.bytesWorld_size]; omega, by rw [mk_size'] at hge; exact hge, hcm, fun j hj => ?_, fun j hj => ⟨?_, ?_⟩⟩, ?_⟩
  · rw [Lib.bytesWorld_cell w _ _ j (by rw [mk_size']; exact hj), mk_data]
    rfl
  · simp only [World.cell?, hn]
    rw [← hsz] at hj
    simp [hj]
  · simp only [World.frozen?, hn]
    rw [← hsz] at hj
    simp
    omega
  · exact ⟨rfl, rfl, rfl, by rw [Lib.bytesWorld_size]; omega, fun k hk => Lib.bytesWorld_at_old w _ _ k hk⟩
end Go.Proofs.YtlnncklanabbdaaGreatDoor
