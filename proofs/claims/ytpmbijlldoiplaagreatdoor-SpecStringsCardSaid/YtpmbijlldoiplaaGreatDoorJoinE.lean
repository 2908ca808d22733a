/- Texts joined: SStr, Bytes, Head, HeadK, RSplit, RLines, RActs, RActsK, RNumb, RdPl, RSpStr, RRead, SpAcc, RSpParse. -/
import Derived.Test.YtpmbijlldoiplaaGreatDoorJoinB
import Derived.Deep.Upon
import Derived.Lib.ConvBytes
import Derived.Lib.SlBytesRow
import Derived.Test.YtpmbijlldoiplaaGreatDoorJoinA
import Derived.Test.YtpmbijlldoiplaaGreatDoorStrPl
import Derived.Test.YtpmbijlldoiplaaGreatDoorDigits
import Derived.Test.YtpmbijlldoiplaaGreatDoorCopy
import Derived.Deep.RegionHeld3
import Derived.Test.YtpmbijlldoiplaaGreatDoorRef
import Derived.Test.YtpmbijlldoiplaaGreatDoorRSpc3
/- system.String. -/
namespace Go.Proofs.YtpmbijlldoiplaaGreatDoor
open Go.RowKit Pl

def sstrV (m : Syst) : Value := if sysB m = true then .tuple #[.string (mk (strS m)), .int .i64 0] else .tuple #[.string ⟨#[]⟩, .int .i64 20]
theorem sstrV_no {m : Syst} (h : sysB m = false) : sstrV m = .tuple #[.string ⟨#[]⟩, .int .i64 20] := by unfold sstrV; rw [h]; rfl
theorem sstrV_yes {m : Syst} (h : sysB m = true) : sstrV m = .tuple #[.string (mk (strS m)), .int .i64 0] := if_pos h
set_option maxRecDepth 100000 in
set_option maxHeartbeats 4000000 in
theorem SString_any {w : World} {a : Option Addr} {n c : Nat} {b : Option Addr} {k d : Nat} {m : Syst} (E : Env w) (A : SysArg w a n c b k d m) :
    Calls Tryz.prog 41 #[.agg #[.slice a n c, .slice b k d]] w fun e w' => e = .returned (sstrV m) ∧ Below w.heap.size w w' := by
  have hB := (Below.refl w.heap.size w).alloc (Nat.le_refl _) (.cells #[.slice a n c, .slice b k d] 25)
  have HA := Lib.hid A
  have HE := Lib.hid E
  have hw := Whole.new w 25 #[.slice a n c, .slice b k d]
  obtain ⟨e0, e1, e2, hE⟩ := E.errs
  have HC := Lib.hid (SCheck_any (hE.below hB) (A.below hB))
  have HBB := Lib.hid hB
  have HW := Lib.hid hw
  clear A hB E hE hw
  have hmf : ∀ (fn : Fn) (first cap : Array Value) (w : World), (Instr.makeFunc fn first cap).run Tryz.prog w = .ok (.func fn first cap) w := fun _ _ _ _ => rfl
  cases hv : sysB m
  · have HV := Lib.hid (sstrV_no hv)
    rw [chk_no hv] at HC
    clear hv
    go_enter Tryz.func41, Tryz.ntmps41
    go_wp2_with fail
    refine HC.out.mono ?_
    rintro e w1 ⟨rfl, hb1⟩
    go_wp2
    go_ret2
    exact ⟨by rw [HV.out]; rfl, HBB.out.trans (hb1.mono HBB.out.size)⟩
  · have HV := Lib.hid (sstrV_yes hv)
    rw [chk_yes hv] at HC
    have HS := Lib.hid hv
    clear hv
    go_enter Tryz.func41, Tryz.ntmps41
    go_wp2_with fail
    refine HC.out.mono ?_
    rintro e w1 ⟨rfl, hb1⟩
    have hb0 := HBB.out.trans (hb1.mono HBB.out.size)
    have hw1 := HW.out.below hb1 HW.out.lt
    have q0 := hw1.cell 0
    have q1 := hw1.cell 1
    have HT := Lib.hid (TText_any ⟨#[115, 121, 115, 116, 101, 109]⟩ rfl (HE.out.below hb0) (HA.out.below hb0) HS.out hw1)
    have HB0 := Lib.hid hb0
    simp only [List.getElem?_toArray, List.getElem?_cons_succ, List.getElem?_cons_zero] at q0 q1
    clear hb0 hb1 hw1
    go_wp2_with fail
    refine HT.out.mono ?_
    rintro e w2 ⟨rfl, hb2⟩
    go_wp2
    go_ret2
    exact ⟨by rw [HV.out]; rfl, HB0.out.trans (hb2.mono HB0.out.size)⟩
end Go.Proofs.YtpmbijlldoiplaaGreatDoor
/- A row of bytes of the call's own, told by its cells (a conversion's row too): append of a string or of bytes, its string. -/
namespace Go.Proofs.YtpmbijlldoiplaaGreatDoor
open Go.RowKit Pl

def byteV (b : UInt8) : Value := .int .u8 (b.toNat : Int)
/-- the value is a row of these bytes, at or above a block -/
def BRow (B : Nat) (w : World) (v : Value) (l : List UInt8) : Prop :=
  ∃ g cap, v = .slice (some ⟨g, 0, none⟩) l.length cap ∧ B ≤ g ∧ g < w.heap.size ∧ l.length ≤ cap ∧ cap ≤ maxLen ∧
    (∀ j, j < l.length → w.cell? ⟨g, j, none⟩ = some (byteV (l.getD j 0))) ∧ ∀ j, j < cap → (w.cell? ⟨g, j, none⟩).isSome = true ∧ w.frozen? ⟨g, j, none⟩ = false
theorem BRow.below {B : Nat} {w w' : World} {v : Value} {l : List UInt8} (h : BRow B w v l) (hb : Below w.heap.size w w') : BRow B w' v l := by
  obtain ⟨g, cap, h1, h2, h3, h4, h5, h6, h7⟩ := h
  have e := hb.block g h3
  refine ⟨g, cap, h1, h2, Nat.lt_of_lt_of_le h3 hb.size, h4, h5, fun j hj => ?_, fun j hj => ?_⟩
  · rw [World.cell?_of_block (w := w) (a := ⟨g, j, none⟩) e]; exact h6 j hj
  · rw [World.cell?_of_block (w := w) (a := ⟨g, j, none⟩) e, World.frozen?_of_block (w := w) (a := ⟨g, j, none⟩) e]; exact h7 j hj
theorem BRow.low {B C : Nat} {w : World} {v : Value} {l : List UInt8} (h : BRow B w v l) (hc : C ≤ B) : BRow C w v l := by
  obtain ⟨g, cap, h1, h2, h3⟩ := h
  exact ⟨g, cap, h1, Nat.le_trans hc h2, h3⟩
theorem BRow.drew {B : Nat} {w : World} {v : Value} {l : List UInt8} (h : BRow B w v l) : BRow B w.drew v l := h
theorem BRow.ge {B : Nat} {w : World} {v : Value} {l : List UInt8} (h : BRow B w v l) : ∀ k, v.ownBlock = some k → B ≤ k := by
  obtain ⟨g, cap, rfl, h2, _⟩ := h
  intro k e
  cases e
  exact h2
theorem BRow.slice {B : Nat} {w : World} {v : Value} {l : List UInt8} (h : BRow B w v l) : ∃ a c, v = .slice a l.length c := by
  obtain ⟨g, cap, h1, _⟩ := h
  exact ⟨_, _, h1⟩
theorem setCells_tape (b : Nat) : ∀ (vs : List Value) (o : Nat) (w : World), (w.setCells b o vs).tape = w.tape ∧ (w.setCells b o vs).heap.size = w.heap.size
  | [], _, _ => ⟨rfl, rfl⟩
  | v :: r, o, w => by
    rw [World.setCells]
    have h := setCells_tape b r (o + 1) (w.setCell ⟨b, o, none⟩ v)
    exact ⟨h.1.trans rfl, h.2.trans (by simp)⟩
theorem setCells_grown (w : World) (g o : Nat) (vs : List Value) : w.grownBy (w.setCells g o vs) (some g) :=
  ⟨World.os_setCells w g o vs, (setCells_tape g vs o w).1, World.output_setCells w g o vs, Nat.le_of_eq (setCells_tape g vs o w).2.symm, fun _ hk hne => World.heap_setCells_other w g o vs hk (fun e => hne (by rw [e]))⟩
theorem getD_app (l k : List UInt8) (j : Nat) : (l ++ k).getD j 0 = if j < l.length then l.getD j 0 else k.getD (j - l.length) 0 := by
  by_cases h : j < l.length
  · rw [if_pos h, List.getD_eq_getElem?_getD, List.getD_eq_getElem?_getD, List.getElem?_append_left h]
  · rw [if_neg h, List.getD_eq_getElem?_getD, List.getD_eq_getElem?_getD, List.getElem?_append_right (by omega)]

theorem run_append_bytes {P : Program} {w : World} {B : Nat} (t tx ty e : TypeId) (i : TypeInfo) (ht : P.underlying t = some (.slice e)) (hi : P.info? e = some i) (hz : i.zero = some (.int .u8 0)) (hsize : i.size = 1) (hby : i.bytes = 1)
    {v : Value} {l : List UInt8} (h : BRow B w v l) (hB : B ≤ w.heap.size) (x : Value) (k : List UInt8) (hs : Src P 1 tx x k.length (k.map byteV) w) (hb : l.length + k.length ≤ 140737488355328) :
    ∃ v' w', (Builtin.append_ #[t, tx] ty #[v, x]).run P w = .ok v' w' ∧ BRow B w' v' (l ++ k) ∧ w.grownBy w' v.ownBlock := by
  obtain ⟨g, cap, rfl, h2, h3, h4, h5, h6, h7⟩ := h
  have hs' : Src P i.size tx x k.length (k.map byteV) w := by rw [hsize]; exact hs
  have hkl : (k.map byteV).length = k.length := List.length_map _
  by_cases hroom : l.length + k.length ≤ cap
  · have hr := run_append_room_src (P := P) w t tx ty e i ht hi g 0 l.length cap x k.length (k.map byteV) hs' hroom
      (fun j hj => by rw [hkl] at hj; rw [hsize, Nat.mul_one, Nat.zero_add]; exact (h7 _ (by omega)).1) (fun j hj => by rw [hkl] at hj; rw [hsize, Nat.mul_one, Nat.zero_add]; exact (h7 _ (by omega)).2)
    rw [hsize, Nat.mul_one, Nat.zero_add] at hr
    refine ⟨_, _, hr, ⟨g, cap, by rw [List.length_append], h2, by rw [(setCells_tape _ _ _ _).2]; exact h3, by rw [List.length_append]; exact hroom, h5, fun j hj => ?_, fun j hj => ?_⟩, setCells_grown _ _ _ _⟩
    · rw [getD_app]
      rw [List.length_append] at hj
      by_cases hjl : j < l.length
      · rw [if_pos hjl, World.cell?_setCells_out g _ _ _ _ (fun _ _ => .inl hjl)]
        exact h6 j hjl
      · rw [if_neg hjl]
        have := World.cell?_setCells_in g (k.map byteV) l.length w (fun q hq => by rw [hkl] at hq; exact (h7 _ (by omega)).1) (j - l.length) (by rw [hkl]; omega)
        rw [show l.length + (j - l.length) = j by omega] at this
        rw [this, List.getElem_map, List.getD_eq_getElem?_getD, List.getElem?_eq_getElem (by omega), Option.getD_some]
    · rw [World.frozen?_setCells]
      exact ⟨World.isSome_setCells g _ _ _ _ (h7 j hj).1, (h7 j hj).2⟩
  · have hold : (Builtin.firstCells i.size l.length (.slice (some ⟨g, 0, none⟩) l.length cap)).run P w.drew = .ok (l.map byteV).toArray w.drew :=
      run_firstCells_some (P := P) w.drew i.size l.length ⟨g, 0, none⟩ l.length cap (l.map byteV) (by rw [hsize, Nat.mul_one, List.length_map]) (fun j u hj => by
        have hjl : j < l.length := by
          have := (List.getElem?_eq_some_iff.1 hj).1
          rwa [List.length_map] at this
        rw [List.getElem?_map, List.getElem?_eq_getElem hjl] at hj
        have e1 := h6 j hjl
        rw [List.getD_eq_getElem?_getD, List.getElem?_eq_getElem hjl, Option.getD_some] at e1
        rw [add_plainly, Nat.zero_add]
        exact e1.trans hj)
    have hr := run_append_grow_src (P := P) w t tx ty e i (.int .u8 0) ht hi hz (some ⟨g, 0, none⟩) l.length cap (l.map byteV) hold x k.length (k.map byteV) hs' (by omega) (by omega) (by rw [hby]; exact growslice_fits (by omega) (by omega))
    have hge := grownCap_ge w (l.length + k.length) cap e
    have hcm := grownCap_le_maxLen w (l.length + k.length) cap e (by simp only [maxLen]; omega)
    obtain ⟨C, hC⟩ : ∃ C, grownCap w (l.length + k.length) cap e = C := ⟨_, rfl⟩
    rw [hC] at hr hge hcm
    have hz1 : (Value.int IntKind.u8 0).cells.size = 1 := rfl
    have hsz : (((l.map byteV ++ k.map byteV).toArray ++ Builtin.zeroCells (Value.int .u8 0).cells (C - (l.length + k.length)))).size = C := by
      simp only [Array.size_append, List.size_toArray, List.length_append, List.length_map, size_zeroCells, hz1]
      omega
    have hcell : ∀ j, (w.drew.alloc (.cells ((l.map byteV ++ k.map byteV).toArray ++ Builtin.zeroCells (Value.int .u8 0).cells (C - (l.length + k.length))) e)).cell? ⟨w.heap.size, j, none⟩ = ((l.map byteV ++ k.map byteV).toArray ++ Builtin.zeroCells (Value.int .u8 0).cells (C - (l.length + k.length)))[j]? :=
      fun j => (Whole.new w.drew e _).cell j
    refine ⟨_, _, hr, ⟨w.heap.size, C, by rw [List.length_append], hB, by simp, by rw [List.length_append]; omega, hcm, fun j hj => ?_, fun j hj => ⟨?_, (Whole.new w.drew e _).frozen j⟩⟩, ⟨rfl, rfl, rfl, by simp, fun q hq _ => heap_alloc_old w.drew _ hq⟩⟩
    · rw [hcell, Array.getElem?_append_left (by rw [List.size_toArray, ← List.map_append, List.length_map]; exact hj), List.getElem?_toArray, ← List.map_append, List.getElem?_map, List.getElem?_eq_getElem hj, List.getD_eq_getElem?_getD, List.getElem?_eq_getElem hj]
      rfl
    · rw [hcell]
      rw [Array.getElem?_eq_getElem (by rw [hsz]; exact hj)]
      rfl

theorem wp_append_bytes {P : Program} {w : World} {o : Oper} {a : Act} {K : Act → World → Prop} {Q : Exit → Act → World → Prop} (s x : Operand) (t tx : TypeId)
    (ho : o.op = .call { callee := .builtin .append, args := #[s, x], argTypes := #[t, tx] }) (B : Nat) (e : TypeId) (i : TypeInfo) (ht : P.underlying t = some (.slice e)) (hi : P.info? e = some i) (hz : i.zero = some (.int .u8 0)) (hsize : i.size = 1) (hby : i.bytes = 1)
    (v : Value) (hv : a.eval s = v) (l : List UInt8) (h : BRow B w v l) (hB : B ≤ w.heap.size) (xv : Value) (hx : a.eval x = xv) (k : List UInt8) (hs : Src P 1 tx xv k.length (k.map byteV) w) (hb : l.length + k.length ≤ 140737488355328)
    (hK : ∀ v' w', BRow B w' v' (l ++ k) → w.grownBy w' v.ownBlock → K (a.put o.dst v') w') : Oper.wp P o a w K Q := by
  obtain ⟨v', w', hrun, r1, r2⟩ := run_append_bytes (P := P) (w := w) t tx o.type e i ht hi hz hsize hby h hB xv k hs hb
  unfold Oper.wp
  simp [execOp, ho, resolve, invoke, builtin, hv, hx, hrun, Result.andThen]
  exact hK v' w' r1 r2
theorem step_append_bytes {P : Program} {w : World} {ops : Array Oper} {o : Oper} {a : Act} {K : Act → World → Prop} {Q : Exit → Act → World → Prop} {E : Prop} (hg : o.guard = none) (s x : Operand) (t tx : TypeId)
    (ho : o.op = .call { callee := .builtin .append, args := #[s, x], argTypes := #[t, tx] }) (B : Nat) (e : TypeId) (i : TypeInfo) (ht : P.underlying t = some (.slice e)) (hi : P.info? e = some i) (hz : i.zero = some (.int .u8 0)) (hsize : i.size = 1) (hby : i.bytes = 1)
    (v : Value) (hv : a.eval s = v) (l : List UInt8) (h : BRow B w v l) (hB : B ≤ w.heap.size) (xv : Value) (hx : a.eval x = xv) (k : List UInt8) (hs : Src P 1 tx xv k.length (k.map byteV) w) (hb : l.length + k.length ≤ 140737488355328)
    (hK : ∀ v' w', BRow B w' v' (l ++ k) → w.grownBy w' v.ownBlock → K (a.put o.dst v') w') : if Region.wanted o (yielded ops a.tmps) = true then Oper.wp P o a w K Q else E := by
  rw [if_pos (by simp [Region.wanted, hg])]
  exact wp_append_bytes s x t tx ho B e i ht hi hz hsize hby v hv l h hB xv hx k hs hb hK
theorem wpList_append_bytes {P : Program} {w : World} {ops : Array Oper} {rest : List Oper} {o : Oper} {a : Act} {Q : Exit → Act → World → Prop} (hg : o.guard = none) (s x : Operand) (t tx : TypeId)
    (ho : o.op = .call { callee := .builtin .append, args := #[s, x], argTypes := #[t, tx] }) (B : Nat) (e : TypeId) (i : TypeInfo) (ht : P.underlying t = some (.slice e)) (hi : P.info? e = some i) (hz : i.zero = some (.int .u8 0)) (hsize : i.size = 1) (hby : i.bytes = 1)
    (v : Value) (hv : a.eval s = v) (l : List UInt8) (h : BRow B w v l) (hB : B ≤ w.heap.size) (xv : Value) (hx : a.eval x = xv) (k : List UInt8) (hs : Src P 1 tx xv k.length (k.map byteV) w) (hb : l.length + k.length ≤ 140737488355328)
    (hK : ∀ v' w', BRow B w' v' (l ++ k) → w.grownBy w' v.ownBlock → wpList P ops Q rest (a.put o.dst v') w') : wpList P ops Q (o :: rest) a w :=
  wpList_plain hg fun _ h' => wp_append_bytes s x t tx ho B e i ht hi hz hsize hby v hv l h hB xv hx k hs hb fun v' w' h2 h3 => h' _ _ (hK v' w' h2 h3)

/-- the string of the row -/
theorem BRow.string {B : Nat} {w : World} {v : Value} {l : List UInt8} (h : BRow B w v l) : (convert 104 9 v).run Tryz.prog w = .ok (.string (mk l)) w := by
  obtain ⟨g, cap, rfl, h2, h3, h4, h5, h6, h7⟩ := h
  have h := Lib.run_convert_whole (P := Tryz.prog) w 104 5 9 Tryz.underlying104 Tryz.underlying5 Tryz.underlying9 g 0 (mk l) (fun i hi => by
    rw [mk_size'] at hi
    rw [Nat.zero_add, h6 i hi]
    rw [List.getD_eq_getElem?_getD, List.getElem?_eq_getElem hi]
    rfl) cap
  rw [mk_size'] at h
  exact h
/-- a string's bytes, converted -/
theorem BRow.ofString (w : World) (l : List UInt8) (hl : l.length ≤ 140737488355328) : ∃ v, (convert 9 104 (.string (mk l))).run Tryz.prog w = .ok v (Lib.bytesWorld w 5 (mk l)) ∧ BRow w.heap.size (Lib.bytesWorld w 5 (mk l)) v l ∧ Below w.heap.size w (Lib.bytesWorld w 5 (mk l)) := by
  have hr := Lib.run_convert_string_bytes (P := Tryz.prog) w 9 104 5 (mk l) Tryz.underlying9 Tryz.underlying104 Tryz.underlying5
  have hge := grownCap_ge w (mk l).size 0 5
  have hcm := grownCap_le_maxLen w (mk l).size 0 5 (by rw [mk_size']; simp only [maxLen]; omega)
  have hsz : (Lib.bytesCells w 5 (mk l)).size = grownCap w (mk l).size 0 5 := by
    unfold Lib.bytesCells
    have : (mk l).data.size = (mk l).size := rfl
    simp only [Array.size_append, Array.size_map, Array.size_replicate]
    omega
  have hn := Lib.bytesWorld_at_new w 5 (mk l)
  refine ⟨_, hr, ⟨w.heap.size, _, by rw [mk_size'], Nat.le_refl _, by rw [Lib.bytesWorld_size]; omega, by rw [mk_size'] at hge; exact hge, hcm, fun j hj => ?_, fun j hj => ⟨?_, ?_⟩⟩, ?_⟩
  · rw [Lib.bytesWorld_cell w _ _ j (by rw [mk_size']; exact hj), mk_data]
    rfl
  · simp only [World.cell?, hn]
    rw [← hsz] at hj
    simp [hj]
  · simp only [World.frozen?, hn]
    rw [← hsz] at hj
    simp
    omega
  · exact ⟨rfl, rfl, rfl, by rw [Lib.bytesWorld_size]; omega, fun k hk => Lib.bytesWorld_at_old w _ _ k hk⟩
end Go.Proofs.YtpmbijlldoiplaaGreatDoor
/- The reference's Head. -/
namespace Go.Proofs.YtpmbijlldoiplaaGreatDoor
open Go.RowKit Pl

theorem one_byte (W : World) (x : UInt8) (t : TypeId) : Src Tryz.prog 1 104 (.slice (some ⟨W.heap.size, 0, none⟩) 1 1) [x].length ([x].map byteV) (W.alloc (.cells #[byteV x] t)) := by
  refine Src.ofSlice _ Tryz.underlying104 ⟨W.heap.size, 0, none⟩ 1 1 ([x].map byteV) rfl (fun j u hu => ?_) (fun u hu => ?_)
  · have hj : j = 0 := by
      have := (List.getElem?_eq_some_iff.1 hu).1
      simp at this
      omega
    subst hj
    rw [add_plainly]
    exact ((Whole.new W t #[byteV x]).cell 0).trans hu
  · simp only [List.map_cons, List.map_nil, List.mem_singleton] at hu
    subst hu; rfl
theorem str_src (W : World) (s : ByteArray) : Src Tryz.prog 1 9 (.string s) s.data.toList.length (s.data.toList.map byteV) W := by
  have h := Src.ofString (P := Tryz.prog) W Tryz.underlying9 s
  rw [← Lib.size_eq]
  exact h
set_option maxRecDepth 100000 in
set_option maxHeartbeats 4000000 in
theorem Head_any {w : World} {a : Option Addr} {n c : Nat} {acts : List ByteArray} (A : StrArg w a n c acts) (hact : actsB acts = true) :
    Calls Tryz.prog 58 #[.string (mk bSystem), .slice a n c] w fun e w' => ∃ v, e = .returned v ∧ BRow w.heap.size w' v (headS acts ++ [10]) ∧ Below w.heap.size w w' := by
  obtain ⟨i0, hi, hz0, hz1, hz2⟩ := info_parts infoByte
  have hac8 := ((actsB_iff acts).1 hact).1
  have hn : n ≤ 8 := by have := A.len; omega
  have HACT := Lib.hid hact
  have HA := Lib.hid A
  obtain ⟨v0, hr0, hrow0, hb0⟩ := BRow.ofString w bSystem (by decide)
  obtain ⟨w1, hw1⟩ : ∃ w1, Lib.bytesWorld w 5 (mk bSystem) = w1 := ⟨_, rfl⟩
  rw [hw1] at hr0 hrow0 hb0
  have HRow0 := Lib.hid hrow0
  have HB0 := Lib.hid hb0
  clear A hact hac8 hrow0 hb0 hw1
  go_enter Tryz.func58, Tryz.ntmps58
  go_wp2_with (rw [hr0])
  go_loopw [5, 7, 12] (fun v _ i wr => ∃ j : Nat, j ≤ n ∧ i = .int .i64 j ∧ BRow w.heap.size wr v (headP acts j) ∧ Below w.heap.size w wr) (fun _ _ i _ => n - (intOf i).toNat)
  case atStart => exact ⟨0, Nat.zero_le _, rfl, by rw [headP_zero]; exact HRow0.out, HB0.out⟩
  case round =>
    obtain ⟨j, hj, rfl, hrow, hb⟩ := hrel
    obtain ⟨va, vc, rfl⟩ := hrow.slice
    have HL := Lib.hid (headP_len HACT.out j)
    have hz := hb.size
    have hal : ∀ x, Below wr.heap.size wr (wr.alloc (.cells #[byteV x] 5)) := fun x => (Below.refl _ wr).alloc (Nat.le_refl _) _
    have HAl := Lib.hid hal
    have HRow := Lib.hid hrow
    have HB := Lib.hid hb
    clear hrow hb hal
    by_cases hlt : j < n
    · obtain ⟨b, off, rfl, c1⟩ := HA.out.cells.below HB.out j (by have := HA.out.len; omega)
      obtain ⟨x, HX⟩ : ∃ x, Hid (at_ acts j = x) := ⟨_, Lib.hid rfl⟩
      change wr.cell? _ = some (.string (at_ acts j)) at c1
      rw [HX.out] at c1
      have HN := Lib.hid (headP_next acts j (by have := HA.out.len; omega))
      have HL1 := Lib.hid (headP_len HACT.out (j + 1))
      go_wp2_with (at_builtin; (refine wpList_append_bytes rfl (.tmp 16) (.tmp 17) 104 104 rfl w.heap.size 5 i0 Tryz.underlying104 hi hz0 hz1 hz2 (.slice va (headP acts j).length vc) rfl (headP acts j) (HRow.out.below (HAl.out 32)) (by simp; omega) (.slice (some ⟨wr.heap.size, 0, none⟩) 1 1) rfl [32] (one_byte wr 32 _) (by have := HL.out; simp; omega) ?_); intro v1 wA hA1 hgA; refine Hid.out ?_)
      refine Lib.hid ?_
      obtain ⟨v1a, v1c, rfl⟩ := hA1.slice
      have hzA := hgA.size
      have HBA := Lib.hid (((HB.out.trans ((HAl.out 32).mono hz)).grown hgA (by simp; omega) HRow.out.ge))
      have HA1 := Lib.hid hA1
      have HX2 := Lib.hid (HN.out)
      rw [HX.out] at HX2
      have HXl : Hid ((headP acts j ++ [32]).length + x.data.toList.length ≤ 140737488355328) := Lib.hid (by
        have h1 := HL1.out
        rw [HX2.out] at h1
        simp only [List.length_append] at h1 ⊢
        omega)
      clear hA1 hgA
      go_wp2_with (at_builtin; (refine wpList_append_bytes rfl (.tmp 18) (.tmp 19) 104 9 rfl w.heap.size 5 i0 Tryz.underlying104 hi hz0 hz1 hz2 _ rfl (headP acts j ++ [32]) HA1.out (by simp at hzA; omega) (.string x) rfl x.data.toList (str_src wA x) HXl.out ?_); intro v2 wB hB1 hgB; refine Hid.out ?_)
      refine Lib.hid ?_
      have HBB := Lib.hid (HBA.out.grown hgB (by simp at hzA; omega) HA1.out.ge)
      rw [List.append_assoc, ← HX2.out] at hB1
      have HB1 := Lib.hid hB1
      clear hB1 hgB
      go_wp2
      go_roundw
      case rel => exact ⟨j + 1, by omega, by go_num, HB1.out, HBB.out⟩
      case measure => simp [intOf]; omega
    · obtain rfl : j = n := by omega
      have HE : Hid (headP acts j = headS acts) := Lib.hid (by rw [HA.out.len, headP_all])
      go_wp2_with (at_builtin; (refine wpList_append_bytes rfl (.tmp 22) (.tmp 23) 104 104 rfl w.heap.size 5 i0 Tryz.underlying104 hi hz0 hz1 hz2 (.slice va (headP acts j).length vc) rfl (headP acts j) (HRow.out.below (HAl.out 10)) (by simp; omega) (.slice (some ⟨wr.heap.size, 0, none⟩) 1 1) rfl [10] (one_byte wr 10 _) (by have := HL.out; simp; omega) ?_); intro v1 wA hA1 hgA; refine Hid.out ?_)
      refine Lib.hid ?_
      have HBA := Lib.hid (((HB.out.trans ((HAl.out 10).mono hz)).grown hgA (by simp; omega) HRow.out.ge))
      rw [HE.out] at hA1
      have HA1 := Lib.hid hA1
      clear hA1 hgA
      go_wp2
      go_ret
      exact ⟨_, rfl, HA1.out, HBA.out⟩
end Go.Proofs.YtpmbijlldoiplaaGreatDoor
/- The reference's Head, for any kind of object. -/
namespace Go.Proofs.YtpmbijlldoiplaaGreatDoor
open Go.RowKit Pl

/-- the first line as far as j names -/
def headQ (kw : List UInt8) (acts : List ByteArray) (j : Nat) : List UInt8 := kw ++ (acts.take j).flatMap (fun a => [32] ++ a.data.toList)
theorem headQ_zero (kw : List UInt8) (acts : List ByteArray) : headQ kw acts 0 = kw := by simp [headQ]
theorem headQ_all (kw : List UInt8) (acts : List ByteArray) : headQ kw acts acts.length = headL kw acts := by simp [headQ, headL]
theorem headQ_next (kw : List UInt8) (acts : List ByteArray) (j : Nat) (h : j < acts.length) : headQ kw acts (j + 1) = headQ kw acts j ++ ([32] ++ (at_ acts j).data.toList) := by
  unfold headQ
  rw [take_next acts j ByteArray.empty h, List.flatMap_append, List.flatMap_singleton, ← List.append_assoc]
  rfl
theorem headQ_len {kw : List UInt8} (hk : kw.length ≤ 20) {acts : List ByteArray} (ha : actsB acts = true) (j : Nat) : (headQ kw acts j).length ≤ 200 := by
  have h3 := heads_len (acts := acts.take j) (fun a h => acts_len ha a (List.mem_of_mem_take h))
  have h2 := ((actsB_iff acts).1 ha).1
  rw [List.length_take] at h3
  unfold headQ
  simp only [List.length_append] at h3 ⊢
  omega
set_option maxRecDepth 100000 in
set_option maxHeartbeats 4000000 in
theorem HeadK_any (kw : List UInt8) (hkw : kw.length ≤ 20) {w : World} {a : Option Addr} {n c : Nat} {acts : List ByteArray} (A : StrArg w a n c acts) (hact : actsB acts = true) :
    Calls Tryz.prog 58 #[.string (mk kw), .slice a n c] w fun e w' => ∃ v, e = .returned v ∧ BRow w.heap.size w' v (headL kw acts ++ [10]) ∧ Below w.heap.size w w' := by
  obtain ⟨i0, hi, hz0, hz1, hz2⟩ := info_parts infoByte
  have hac8 := ((actsB_iff acts).1 hact).1
  have hn : n ≤ 8 := by have := A.len; omega
  have HACT := Lib.hid hact
  have HA := Lib.hid A
  obtain ⟨v0, hr0, hrow0, hb0⟩ := BRow.ofString w kw (by omega)
  obtain ⟨w1, hw1⟩ : ∃ w1, Lib.bytesWorld w 5 (mk kw) = w1 := ⟨_, rfl⟩
  rw [hw1] at hr0 hrow0 hb0
  have HRow0 := Lib.hid hrow0
  have HB0 := Lib.hid hb0
  clear A hact hac8 hrow0 hb0 hw1
  go_enter Tryz.func58, Tryz.ntmps58
  go_wp2_with (rw [hr0])
  go_loopw [5, 7, 12] (fun v _ i wr => ∃ j : Nat, j ≤ n ∧ i = .int .i64 j ∧ BRow w.heap.size wr v (headQ kw acts j) ∧ Below w.heap.size w wr) (fun _ _ i _ => n - (intOf i).toNat)
  case atStart => exact ⟨0, Nat.zero_le _, rfl, by rw [headQ_zero]; exact HRow0.out, HB0.out⟩
  case round =>
    obtain ⟨j, hj, rfl, hrow, hb⟩ := hrel
    obtain ⟨va, vc, rfl⟩ := hrow.slice
    have HL := Lib.hid (headQ_len hkw HACT.out j)
    have hz := hb.size
    have hal : ∀ x, Below wr.heap.size wr (wr.alloc (.cells #[byteV x] 5)) := fun x => (Below.refl _ wr).alloc (Nat.le_refl _) _
    have HAl := Lib.hid hal
    have HRow := Lib.hid hrow
    have HB := Lib.hid hb
    clear hrow hb hal
    by_cases hlt : j < n
    · obtain ⟨b, off, rfl, c1⟩ := HA.out.cells.below HB.out j (by have := HA.out.len; omega)
      obtain ⟨x, HX⟩ : ∃ x, Hid (at_ acts j = x) := ⟨_, Lib.hid rfl⟩
      change wr.cell? _ = some (.string (at_ acts j)) at c1
      rw [HX.out] at c1
      have HN := Lib.hid (headQ_next kw acts j (by have := HA.out.len; omega))
      have HL1 := Lib.hid (headQ_len hkw HACT.out (j + 1))
      go_wp2_with (at_builtin; (refine wpList_append_bytes rfl (.tmp 16) (.tmp 17) 104 104 rfl w.heap.size 5 i0 Tryz.underlying104 hi hz0 hz1 hz2 (.slice va (headQ kw acts j).length vc) rfl (headQ kw acts j) (HRow.out.below (HAl.out 32)) (by simp; omega) (.slice (some ⟨wr.heap.size, 0, none⟩) 1 1) rfl [32] (one_byte wr 32 _) (by have := HL.out; simp; omega) ?_); intro v1 wA hA1 hgA; refine Hid.out ?_)
      refine Lib.hid ?_
      obtain ⟨v1a, v1c, rfl⟩ := hA1.slice
      have hzA := hgA.size
      have HBA := Lib.hid (((HB.out.trans ((HAl.out 32).mono hz)).grown hgA (by simp; omega) HRow.out.ge))
      have HA1 := Lib.hid hA1
      have HX2 := Lib.hid (HN.out)
      rw [HX.out] at HX2
      have HXl : Hid ((headQ kw acts j ++ [32]).length + x.data.toList.length ≤ 140737488355328) := Lib.hid (by
        have h1 := HL1.out
        rw [HX2.out] at h1
        simp only [List.length_append] at h1 ⊢
        omega)
      clear hA1 hgA
      go_wp2_with (at_builtin; (refine wpList_append_bytes rfl (.tmp 18) (.tmp 19) 104 9 rfl w.heap.size 5 i0 Tryz.underlying104 hi hz0 hz1 hz2 _ rfl (headQ kw acts j ++ [32]) HA1.out (by simp at hzA; omega) (.string x) rfl x.data.toList (str_src wA x) HXl.out ?_); intro v2 wB hB1 hgB; refine Hid.out ?_)
      refine Lib.hid ?_
      have HBB := Lib.hid (HBA.out.grown hgB (by simp at hzA; omega) HA1.out.ge)
      rw [List.append_assoc, ← HX2.out] at hB1
      have HB1 := Lib.hid hB1
      clear hB1 hgB
      go_wp2
      go_roundw
      case rel => exact ⟨j + 1, by omega, by go_num, HB1.out, HBB.out⟩
      case measure => simp [intOf]; omega
    · obtain rfl : j = n := by omega
      have HE : Hid (headQ kw acts j = headL kw acts) := Lib.hid (by rw [HA.out.len, headQ_all])
      go_wp2_with (at_builtin; (refine wpList_append_bytes rfl (.tmp 22) (.tmp 23) 104 104 rfl w.heap.size 5 i0 Tryz.underlying104 hi hz0 hz1 hz2 (.slice va (headQ kw acts j).length vc) rfl (headQ kw acts j) (HRow.out.below (HAl.out 10)) (by simp; omega) (.slice (some ⟨wr.heap.size, 0, none⟩) 1 1) rfl [10] (one_byte wr 10 _) (by have := HL.out; simp; omega) ?_); intro v1 wA hA1 hgA; refine Hid.out ?_)
      refine Lib.hid ?_
      have HBA := Lib.hid (((HB.out.trans ((HAl.out 10).mono hz)).grown hgA (by simp; omega) HRow.out.ge))
      rw [HE.out] at hA1
      have HA1 := Lib.hid hA1
      clear hA1 hgA
      go_wp2
      go_ret
      exact ⟨_, rfl, HA1.out, HBA.out⟩
end Go.Proofs.YtpmbijlldoiplaaGreatDoor
/- The reference's Split. -/
namespace Go.Proofs.YtpmbijlldoiplaaGreatDoor
open Go.RowKit Pl

/-- where a split stands: i bytes are read, the part under way begins at f -/
def SplAt (c : UInt8) (l : List UInt8) (i f : Nat) (pre : List (List UInt8)) : Prop := f ≤ i ∧ i ≤ l.length ∧ c ∉ (l.drop f).take (i - f) ∧ sp c l = pre ++ sp c (l.drop f) ∧ pre.length ≤ f
theorem SplAt.start (c : UInt8) (l : List UInt8) : SplAt c l 0 0 [] := ⟨Nat.le_refl _, Nat.zero_le _, by simp, by simp, by simp⟩
theorem drop_take_next (l : List UInt8) (f i : Nat) (hf : f ≤ i) (hi : i < l.length) : (l.drop f).take (i + 1 - f) = (l.drop f).take (i - f) ++ [l[i]] := by
  rw [show i + 1 - f = (i - f) + 1 by omega, List.take_succ_eq_append_getElem (by rw [List.length_drop]; omega), List.getElem_drop]
  congr 3
  omega
theorem SplAt.miss {c : UInt8} {l : List UInt8} {i f : Nat} {pre : List (List UInt8)} (h : SplAt c l i f pre) (hi : i < l.length) (hc : l[i] ≠ c) : SplAt c l (i + 1) f pre := by
  obtain ⟨h1, h2, h3, h4, h5⟩ := h
  refine ⟨by omega, hi, ?_, h4, h5⟩
  rw [drop_take_next l f i h1 hi, List.mem_append]
  rintro (h | h)
  · exact h3 h
  · exact hc (List.mem_singleton.1 h).symm
theorem SplAt.hit {c : UInt8} {l : List UInt8} {i f : Nat} {pre : List (List UInt8)} (h : SplAt c l i f pre) (hi : i < l.length) (hc : l[i] = c) : SplAt c l (i + 1) (i + 1) (pre ++ [(l.drop f).take (i - f)]) := by
  obtain ⟨h1, h2, h3, h4, h5⟩ := h
  refine ⟨Nat.le_refl _, hi, by simp, ?_, by simp; omega⟩
  have e : l.drop f = (l.drop f).take (i - f) ++ c :: l.drop (i + 1) := by
    have e1 : (l.drop f).drop (i - f) = c :: l.drop (i + 1) := by
      rw [List.drop_drop, show f + (i - f) = i by omega, List.drop_eq_getElem_cons hi, hc]
    rw [← e1, List.take_append_drop]
  rw [h4, List.append_assoc]
  congr 1
  conv => lhs; rw [e]
  rw [sp_app c _ _ h3]
  rfl
theorem SplAt.fin {c : UInt8} {l : List UInt8} {f : Nat} {pre : List (List UInt8)} (h : SplAt c l l.length f pre) : sp c l = pre ++ [l.drop f] := by
  obtain ⟨h1, h2, h3, h4, h5⟩ := h
  rw [List.take_of_length_le (by rw [List.length_drop]; omega)] at h3
  rw [h4, sp_plain c _ h3]

theorem strs_row {w : World} {base : Nat} {v : Value} {n : Nat} {ss : List ByteArray} (h : w.ownsRow base 9 1 v n (ss.map Value.string)) (hn : n = ss.length) (hbig : n ≤ 9223372036854775807) (hs : ∀ k, k < n → (at_ ss k).size ≤ 9223372036854775807) :
    ∃ a c, v = .slice a n c ∧ StrArg w a n c ss ∧ ∀ ad, a = some ad → base ≤ ad.block := by
  rcases h.2 with ⟨rfl, rfl⟩ | ⟨g, cap, cur, rfl, hg, hh, hc, hm, hz, ht⟩
  · exact ⟨none, 0, rfl, ⟨fun _ => rfl, hn, Nat.le_refl _, hbig, hs, fun j hj => by omega⟩, fun _ h => by cases h⟩
  · refine ⟨some ⟨g, 0, none⟩, cap, rfl, ⟨(fun h => by cases h), hn, hc, hbig, hs, fun j hj => ⟨g, 0, rfl, ?_⟩⟩, fun ad e => by cases e; exact hg⟩
    have h9 := h.cells (g := g) rfl j (.string (ss.getD j ByteArray.empty)) (by rw [List.getElem?_map, List.getElem?_eq_getElem hj]; simp [List.getD, hj])
    rw [add_plainly] at h9
    rw [Nat.zero_add]
    rw [Nat.zero_add] at h9
    exact h9

set_option maxRecDepth 100000 in
set_option maxHeartbeats 4000000 in
theorem RSplit_any (s : ByteArray) (hs : s.size ≤ 1000000) (c : UInt8) (w : World) :
    Calls Tryz.prog 106 #[.string s, .int .u8 (c.toNat : Int)] w fun e w' => ∃ a cap, e = .returned (.slice a (spB c s).length cap) ∧ StrArg w' a (spB c s).length cap (spB c s) ∧ (∀ ad, a = some ad → w.heap.size ≤ ad.block) ∧ Below w.heap.size w w' := by
  obtain ⟨i0, hi, hz0, hz1, hz2⟩ := info_parts infoString
  have HSZ := Lib.hid (Lib.size_eq s)
  go_enter Tryz.func106, Tryz.ntmps106
  go_wp2
  go_loopw [5, 6, 7, 10] (fun v fr _ i wr => ∃ (j f : Nat) (pre : List (List UInt8)), j ≤ s.size ∧ i = .int .i64 j ∧ fr = .int .i64 f ∧ f ≤ j ∧ wr.ownsRow w.heap.size 9 1 v pre.length (pre.map fun b => Value.string (mk b)) ∧ Hid (SplAt c s.data.toList j f pre) ∧ Below w.heap.size w wr) (fun _ _ _ i _ => s.size - (intOf i).toNat)
  case atStart => exact ⟨0, 0, [], Nat.zero_le _, rfl, rfl, Nat.le_refl _, World.ownsRow_nil _ _ _ _, Lib.hid (SplAt.start _ _), Below.refl _ _⟩
  case round =>
    obtain ⟨j, f, pre, hj, rfl, rfl, hf, hown, hsp, hb⟩ := hrel
    obtain ⟨va, vc, rfl⟩ := own_slice hown
    have HO := Lib.hid hown
    have HB := Lib.hid hb
    have hz := hb.size
    have hpl : pre.length ≤ 1000000 := by have := hsp.out.2.2.2.2; omega
    clear hown hb
    by_cases hlt : j < s.size
    · have hj' : j < s.data.toList.length := by rw [← HSZ.out]; exact hlt
      have hsj : s.data.toList[j] = s[j]'hlt := by simp [ByteArray.getElem_eq_getElem_data]
      by_cases hc : s.data.toList[j] = c
      · have HN := Lib.hid (hsp.out.hit hj' hc)
        have hq : (((s[j]'hlt).toNat : Int) == (c.toNat : Int)) = true := by rw [← hsj, hc]; simp
        obtain ⟨X, HX⟩ : ∃ X : ByteArray, Hid (s.extract f j = X) := ⟨_, Lib.hid rfl⟩
        have HXe : Hid (X = mk ((s.data.toList.drop f).take (j - f))) := Lib.hid (by rw [← HX.out, ← Lib.extract_data, mk_of])
        have hal : Below wr.heap.size wr (wr.alloc (.cells #[.string X] 9)) := (Below.refl _ wr).alloc (Nat.le_refl _) _
        have hjf : (f : Int) ≤ j := by omega
        go_wp2_with (at_builtin; (rw [HX.out]; refine wpList_append_sz rfl (.tmp 18) (.tmp 23) 22 rfl w.heap.size 9 i0 (.string ⟨#[]⟩) 1 16 Tryz.underlying22 hi hz0 hz1 hz2 rfl (by decide) (.slice va pre.length vc) rfl pre.length _ (HO.out.alloc _) (some ⟨wr.heap.size, 0, none⟩) 1 1 rfl [.string X] (fun h => by cases h) rfl (one_src _ _ _) (by simp [Value.oneCell']) (by unfold maxLen; omega) (by omega) (by simp; omega) ?_); intro v1 w2 hown hg hat; clear hat; refine Hid.out ?_)
        refine Lib.hid ?_
        have e1 : (pre.map fun b => Value.string (mk b)) ++ [.string X] = (pre ++ [(s.data.toList.drop f).take (j - f)]).map fun b => Value.string (mk b) := by rw [HXe.out]; simp
        have e2 : pre.length + 1 = (pre ++ [(s.data.toList.drop f).take (j - f)]).length := by simp
        rw [e1, e2] at hown
        have HO2 := Lib.hid hown
        have HB2 := Lib.hid ((HB.out.trans (hal.mono hz)).grown hg (by simp; omega) (own_ge HO.out))
        clear hown hg e1 e2 hal
        go_wp2
        go_roundw
        case rel => exact ⟨j + 1, j + 1, _, by omega, by go_num, by go_num, Nat.le_refl _, HO2.out, HN, HB2.out⟩
        case measure => simp [intOf]; omega
      · have HN := Lib.hid (hsp.out.miss hj' hc)
        have hq : (((s[j]'hlt).toNat : Int) == (c.toNat : Int)) = false := by
          rw [beq_eq_false_iff_ne, ← hsj]
          intro e
          exact hc (UInt8.toNat_inj.1 (by omega))
        go_wp2
        go_roundw
        case rel => exact ⟨j + 1, f, pre, by omega, by go_num, rfl, by omega, HO.out, HN, HB.out⟩
        case measure => simp [intOf]; omega
    · obtain rfl : j = s.size := by omega
      have hfin := hsp.out
      rw [HSZ.out] at hfin
      have HF := Lib.hid hfin.fin
      obtain ⟨X, HX⟩ : ∃ X : ByteArray, Hid (s.extract f s.size = X) := ⟨_, Lib.hid rfl⟩
      have HXe : Hid (X = mk (s.data.toList.drop f)) := Lib.hid (by rw [← HX.out, ← Lib.extract_to_end, mk_of])
      have hal : Below wr.heap.size wr (wr.alloc (.cells #[.string X] 9)) := (Below.refl _ wr).alloc (Nat.le_refl _) _
      have hjf : (f : Int) ≤ s.size := by omega
      clear hfin
      go_wp2_with (at_builtin; (rw [HX.out]; refine wpList_append_sz rfl (.tmp 28) (.tmp 32) 22 rfl w.heap.size 9 i0 (.string ⟨#[]⟩) 1 16 Tryz.underlying22 hi hz0 hz1 hz2 rfl (by decide) (.slice va pre.length vc) rfl pre.length _ (HO.out.alloc _) (some ⟨wr.heap.size, 0, none⟩) 1 1 rfl [.string X] (fun h => by cases h) rfl (one_src _ _ _) (by simp [Value.oneCell']) (by unfold maxLen; omega) (by omega) (by simp; omega) ?_); intro v1 w2 hown hg hat; clear hat; refine Hid.out ?_)
      refine Lib.hid ?_
      have e0 : (spB c s).map Value.string = (pre.map fun b => Value.string (mk b)) ++ [.string X] := by
        unfold spB
        rw [HF.out, HXe.out]
        simp
      have e2 : (spB c s).length = pre.length + 1 := by unfold spB; rw [HF.out]; simp
      rw [← e0, ← e2] at hown
      have HB2 := Lib.hid ((HB.out.trans (hal.mono hz)).grown hg (by simp; omega) (own_ge HO.out))
      have hst : ∃ a cap, v1 = .slice a (spB c s).length cap ∧ StrArg w2 a (spB c s).length cap (spB c s) ∧ ∀ ad, a = some ad → w.heap.size ≤ ad.block := by
        exact strs_row hown rfl (by rw [e2]; omega) (fun k hk => Nat.le_trans (spB_size (at_in _ _ hk)) (by omega))
      obtain ⟨a1, cap1, rfl, hS⟩ := hst
      have HS := Lib.hid hS
      clear hown hg e0 e2 hal hS
      go_wp2
      go_ret
      exact ⟨_, _, rfl, HS.out.1, HS.out.2, HB2.out⟩
end Go.Proofs.YtpmbijlldoiplaaGreatDoor
/- The reference's Lines, Number, Actions. -/
namespace Go.Proofs.YtpmbijlldoiplaaGreatDoor
open Go.RowKit Pl

theorem ext_data (s : ByteArray) (k : Nat) : (s.extract 0 k).data.toList = s.data.toList.take k := by
  rw [Lib.extract_data, List.drop_zero, Nat.sub_zero]
theorem cut_yes {l : List UInt8} (h : 0 < l.length) (hc : l[l.length - 1] = 10) : cut1 l = l.take (l.length - 1) := by
  have e : l = l.take (l.length - 1) ++ [10] := by
    conv => lhs; rw [← List.take_append_drop (l.length - 1) l]
    congr 1
    rw [List.drop_eq_getElem_cons (by omega), hc, List.drop_eq_nil_of_le (by omega)]
  conv => lhs; rw [e]
  exact trim_snoc _
theorem cut_no {l : List UInt8} (h : 0 < l.length) (hc : l[l.length - 1] ≠ 10) : cut1 l = l := by
  have e : l = l.take (l.length - 1) ++ [l[l.length - 1]] := by
    conv => lhs; rw [← List.take_append_drop (l.length - 1) l]
    congr 1
    rw [List.drop_eq_getElem_cons (by omega), List.drop_eq_nil_of_le (by omega)]
  rw [e]
  exact cut_other _ (by simp) (by simpa using fun h => hc h.symm)

set_option maxRecDepth 100000 in
set_option maxHeartbeats 4000000 in
theorem RLines_any (s : ByteArray) (hs : s.size ≤ 1000000) (w : World) :
    Calls Tryz.prog 61 #[.string s] w fun e w' => ∃ a cap, e = .returned (.slice a (spB 10 (mk (cut1 s.data.toList))).length cap) ∧ StrArg w' a (spB 10 (mk (cut1 s.data.toList))).length cap (spB 10 (mk (cut1 s.data.toList))) ∧ (∀ ad, a = some ad → w.heap.size ≤ ad.block) ∧ Below w.heap.size w w' := by
  have HSZ := Lib.hid (Lib.size_eq s)
  by_cases h0 : 0 < s.size
  · have hl : 0 < s.data.toList.length := by rw [← Lib.size_eq]; exact h0
    have hlt : s.size - 1 < s.size := by omega
    have hsj : s.data.toList[s.data.toList.length - 1]'(by omega) = s[s.size - 1]'hlt := by
      simp [ByteArray.getElem_eq_getElem_data]
    by_cases hc : s.data.toList[s.data.toList.length - 1]'(by omega) = 10
    · have HC := Lib.hid (cut_yes hl hc)
      have hq : (((s[s.size - 1]'hlt).toNat : Int) == 10) = true := by rw [← hsj, hc]; rfl
      have HX : Hid (s.extract 0 (s.size - 1) = mk (cut1 s.data.toList)) := Lib.hid (by rw [HC.out, ← HSZ.out, ← ext_data, mk_of])
      have hr := RSplit_any (s.extract 0 (s.size - 1)) (by simp; omega) 10 w
      have h10 : ((10 : UInt8).toNat : Int) = 10 := rfl
      rw [HX.out, h10] at hr
      have HR := Lib.hid hr
      have h0' : (0 : Int) < s.size := by omega
      clear hc hsj hl hr h10
      go_enter Tryz.func61, Tryz.ntmps61
      go_wp2_with fail
      rw [HX.out]
      refine HR.out.mono ?_
      rintro e w1 ⟨a, cap, rfl, hA, hbl, hb⟩
      have HA := Lib.hid hA
      have HB := Lib.hid hb
      have HBL := Lib.hid hbl
      clear hA hb hbl
      go_wp2
      go_ret
      exact ⟨a, cap, rfl, HA.out, HBL.out, HB.out⟩
    · have HC := Lib.hid (cut_no hl hc)
      have hq : (((s[s.size - 1]'hlt).toNat : Int) == 10) = false := by
        rw [beq_eq_false_iff_ne, ← hsj]
        intro e
        exact hc (UInt8.toNat_inj.1 (by have h10 : (10 : UInt8).toNat = 10 := rfl; omega))
      have HX : Hid (s = mk (cut1 s.data.toList)) := Lib.hid (by rw [HC.out, mk_of])
      have hr := RSplit_any s hs 10 w
      have h10 : ((10 : UInt8).toNat : Int) = 10 := rfl
      rw [h10] at hr
      have HR := Lib.hid hr
      have h0' : (0 : Int) < s.size := by omega
      clear hc hsj hl hr h10
      rw [← HX.out]
      go_enter Tryz.func61, Tryz.ntmps61
      go_wp2_with fail
      refine HR.out.mono ?_
      rintro e w1 ⟨a, cap, rfl, hA, hbl, hb⟩
      have HA := Lib.hid hA
      have HB := Lib.hid hb
      have HBL := Lib.hid hbl
      clear hA hb hbl
      go_wp2
      go_ret
      exact ⟨a, cap, rfl, HA.out, HBL.out, HB.out⟩
  · have he : s.data.toList = [] := List.length_eq_zero_iff.1 (by rw [← Lib.size_eq]; omega)
    have HX : Hid (s = mk (cut1 s.data.toList)) := Lib.hid (by
      rw [he]
      have : s = mk s.data.toList := (mk_of s).symm
      rw [he] at this
      exact this)
    have hr := RSplit_any s hs 10 w
    have h10 : ((10 : UInt8).toNat : Int) = 10 := rfl
    rw [h10] at hr
    have HR := Lib.hid hr
    have h0' : ¬ (0 : Int) < s.size := by omega
    have h0'' : (s.size : Int) ≤ 0 := by omega
    clear he hr h10
    rw [← HX.out]
    go_enter Tryz.func61, Tryz.ntmps61
    go_wp2_with fail
    refine HR.out.mono ?_
    rintro e w1 ⟨a, cap, rfl, hA, hbl, hb⟩
    have HA := Lib.hid hA
    have HB := Lib.hid hb
    have HBL := Lib.hid hbl
    clear hA hb hbl
    go_wp2
    go_ret
    exact ⟨a, cap, rfl, HA.out, HBL.out, HB.out⟩
end Go.Proofs.YtpmbijlldoiplaaGreatDoor
/- The reference's Actions. -/
namespace Go.Proofs.YtpmbijlldoiplaaGreatDoor
open Go.RowKit Pl

set_option maxRecDepth 100000 in
set_option maxHeartbeats 4000000 in
theorem RActions_any (s : ByteArray) (hs : s.size ≤ 1000000) (w : World) :
    Calls Tryz.prog 62 #[.string s, .string (mk bSystem)] w fun e w' => Below w.heap.size w w' ∧
      ((headO s.data.toList = none ∧ ∃ a n c, e = .returned (.tuple #[.slice a n c, .bool false])) ∨
        ∃ acts a c, headO s.data.toList = some acts ∧ e = .returned (.tuple #[.slice a acts.length c, .bool true]) ∧ StrArg w' a acts.length c acts ∧ ∀ ad, a = some ad → w.heap.size ≤ ad.block) := by
  have HP := Lib.hid (headO_eq s)
  have hr := RSplit_any s hs 32 w
  have h10 : ((32 : UInt8).toNat : Int) = 32 := rfl
  rw [h10] at hr
  have hN1 := spB_pos 32 s
  have hN2 := spB_count 32 s
  obtain ⟨ws, HWS⟩ : ∃ ws, Hid (spB 32 s = ws) := ⟨_, Lib.hid rfl⟩
  rw [HWS.out] at HP hN1 hN2 hr
  have HR := Lib.hid hr
  obtain ⟨N, HN⟩ : ∃ N, Hid (ws.length = N) := ⟨_, Lib.hid rfl⟩
  rw [HN.out] at HR hN1 hN2
  clear hr h10
  go_enter Tryz.func62, Tryz.ntmps62
  go_wp2_with fail
  refine HR.out.mono ?_
  rintro e w1 ⟨a, c, rfl, hA, hbl, hb⟩
  obtain ⟨x, HX⟩ : ∃ x, Hid (at_ ws 0 = x) := ⟨_, Lib.hid rfl⟩
  obtain ⟨b, off, rfl, c0⟩ := hA.cells 0 (by have := HN.out; omega)
  change w1.cell? _ = some (.string (at_ ws 0)) at c0
  rw [HX.out] at c0 HP
  simp only [Nat.add_zero] at c0
  obtain ⟨a', hcut, hA', hbl'⟩ := cut_from hA 1 hN1
  simp only [Int.natCast_one] at hcut
  have HBL : Hid (∀ ad, a' = some ad → w.heap.size ≤ ad.block) := Lib.hid fun ad e => by
    obtain ⟨ad0, h1, h2⟩ := hbl' ad e
    rw [h2]
    exact hbl ad0 h1
  obtain ⟨wd, HWd⟩ : ∃ z, Hid (ws.drop 1 = z) := ⟨_, Lib.hid rfl⟩
  have HLn : Hid (wd.length = N - 1) := Lib.hid (by rw [← HWd.out, List.length_drop, HN.out])
  rw [HWd.out] at HP hA'
  have HA' := Lib.hid hA'
  have HB := Lib.hid hb
  have his := fun (W : World) (h : Below w1.heap.size w1 W) => Is_arg (hA'.below h)
  have hN0 : (0 : Int) < N := by omega
  have hN3 : (1 : Int) ≤ N := by omega
  clear hA hbl hbl' hA' hb
  by_cases hx : x = mk bSystem
  · have hq : (x.toList == (mk bSystem).toList) = true := by rw [bytes_eq]; exact decide_eq_true hx
    cases hac : actsB wd
    · have HF : Hid (headO s.data.toList = none) := Lib.hid (by rw [HP.out, if_neg]; rintro ⟨_, h⟩; rw [hac] at h; cases h)
      rw [hac] at his
      have HIs := Lib.hid his
      clear hx hac his
      go_wp2
      go_region_held3 (fun w' => w'.cell? ⟨b, off, none⟩ = some (.string x)) ((first | assumption | go_keep))
        (first | (go_at_call 35; refine (HIs.out _ (by first | exact (Below.refl _ _).drew | exact Below.refl _ _)).mono ?_; rintro e w' ⟨rfl, rfl⟩))
      go_wp2
      go_ret2
      exact ⟨HB.out.drew, .inl ⟨HF.out, _, _, _, rfl⟩⟩
    · have HF : Hid (headO s.data.toList = some wd) := Lib.hid (by rw [HP.out, if_pos ⟨hx, hac⟩])
      rw [hac] at his
      have HIs := Lib.hid his
      clear hx hac his
      go_wp2
      go_region_held3 (fun w' => w'.cell? ⟨b, off, none⟩ = some (.string x)) ((first | assumption | go_keep))
        (first | (go_at_call 35; refine (HIs.out _ (by first | exact (Below.refl _ _).drew | exact Below.refl _ _)).mono ?_; rintro e w' ⟨rfl, rfl⟩))
      go_wp2
      go_ret2
      exact ⟨HB.out.drew, .inr ⟨wd, a', _, HF.out, by rw [HLn.out]; rfl, by rw [HLn.out]; exact HA'.out.below (Below.refl _ _).drew, HBL.out⟩⟩
  · have hq : (x.toList == (mk bSystem).toList) = false := by rw [bytes_eq]; exact decide_eq_false hx
    have HF : Hid (headO s.data.toList = none) := Lib.hid (by rw [HP.out, if_neg]; rintro ⟨h, _⟩; exact hx h)
    clear hx his
    go_wp2
    go_quiet (fail)
    go_wp2
    go_ret2
    exact ⟨⟨HB.out.os, HB.out.tape, HB.out.output, HB.out.size, HB.out.block⟩, .inl ⟨HF.out, _, _, _, rfl⟩⟩
end Go.Proofs.YtpmbijlldoiplaaGreatDoor
/- The reference's Actions, for any kind of object. -/
namespace Go.Proofs.YtpmbijlldoiplaaGreatDoor
open Go.RowKit Pl

set_option maxRecDepth 100000 in
set_option maxHeartbeats 4000000 in
theorem RActionsK_any (kw : ByteArray) (s : ByteArray) (hs : s.size ≤ 1000000) (w : World) :
    Calls Tryz.prog 62 #[.string s, .string kw] w fun e w' => Below w.heap.size w w' ∧
      ((headK kw.data.toList s.data.toList = none ∧ ∃ a n c, e = .returned (.tuple #[.slice a n c, .bool false])) ∨
        ∃ acts a c, headK kw.data.toList s.data.toList = some acts ∧ e = .returned (.tuple #[.slice a acts.length c, .bool true]) ∧ StrArg w' a acts.length c acts ∧ ∀ ad, a = some ad → w.heap.size ≤ ad.block) := by
  have HP := Lib.hid (headK_eq kw s)
  have hr := RSplit_any s hs 32 w
  have h10 : ((32 : UInt8).toNat : Int) = 32 := rfl
  rw [h10] at hr
  have hN1 := spB_pos 32 s
  have hN2 := spB_count 32 s
  obtain ⟨ws, HWS⟩ : ∃ ws, Hid (spB 32 s = ws) := ⟨_, Lib.hid rfl⟩
  rw [HWS.out] at HP hN1 hN2 hr
  have HR := Lib.hid hr
  obtain ⟨N, HN⟩ : ∃ N, Hid (ws.length = N) := ⟨_, Lib.hid rfl⟩
  rw [HN.out] at HR hN1 hN2
  clear hr h10
  go_enter Tryz.func62, Tryz.ntmps62
  go_wp2_with fail
  refine HR.out.mono ?_
  rintro e w1 ⟨a, c, rfl, hA, hbl, hb⟩
  obtain ⟨x, HX⟩ : ∃ x, Hid (at_ ws 0 = x) := ⟨_, Lib.hid rfl⟩
  obtain ⟨b, off, rfl, c0⟩ := hA.cells 0 (by have := HN.out; omega)
  change w1.cell? _ = some (.string (at_ ws 0)) at c0
  rw [HX.out] at c0 HP
  simp only [Nat.add_zero] at c0
  obtain ⟨a', hcut, hA', hbl'⟩ := cut_from hA 1 hN1
  simp only [Int.natCast_one] at hcut
  have HBL : Hid (∀ ad, a' = some ad → w.heap.size ≤ ad.block) := Lib.hid fun ad e => by
    obtain ⟨ad0, h1, h2⟩ := hbl' ad e
    rw [h2]
    exact hbl ad0 h1
  obtain ⟨wd, HWd⟩ : ∃ z, Hid (ws.drop 1 = z) := ⟨_, Lib.hid rfl⟩
  have HLn : Hid (wd.length = N - 1) := Lib.hid (by rw [← HWd.out, List.length_drop, HN.out])
  rw [HWd.out] at HP hA'
  have HA' := Lib.hid hA'
  have HB := Lib.hid hb
  have his := fun (W : World) (h : Below w1.heap.size w1 W) => Is_arg (hA'.below h)
  have hN0 : (0 : Int) < N := by omega
  have hN3 : (1 : Int) ≤ N := by omega
  clear hA hbl hbl' hA' hb
  by_cases hx : x = kw
  · have hq : (x.toList == (kw).toList) = true := by rw [bytes_eq]; exact decide_eq_true hx
    cases hac : actsB wd
    · have HF : Hid (headK kw.data.toList s.data.toList = none) := Lib.hid (by rw [HP.out, if_neg]; rintro ⟨_, h⟩; rw [hac] at h; cases h)
      rw [hac] at his
      have HIs := Lib.hid his
      clear hx hac his
      go_wp2
      go_region_held3 (fun w' => w'.cell? ⟨b, off, none⟩ = some (.string x)) ((first | assumption | go_keep))
        (first | (go_at_call 35; refine (HIs.out _ (by first | exact (Below.refl _ _).drew | exact Below.refl _ _)).mono ?_; rintro e w' ⟨rfl, rfl⟩))
      go_wp2
      go_ret2
      exact ⟨HB.out.drew, .inl ⟨HF.out, _, _, _, rfl⟩⟩
    · have HF : Hid (headK kw.data.toList s.data.toList = some wd) := Lib.hid (by rw [HP.out, if_pos ⟨hx, hac⟩])
      rw [hac] at his
      have HIs := Lib.hid his
      clear hx hac his
      go_wp2
      go_region_held3 (fun w' => w'.cell? ⟨b, off, none⟩ = some (.string x)) ((first | assumption | go_keep))
        (first | (go_at_call 35; refine (HIs.out _ (by first | exact (Below.refl _ _).drew | exact Below.refl _ _)).mono ?_; rintro e w' ⟨rfl, rfl⟩))
      go_wp2
      go_ret2
      exact ⟨HB.out.drew, .inr ⟨wd, a', _, HF.out, by rw [HLn.out]; rfl, by rw [HLn.out]; exact HA'.out.below (Below.refl _ _).drew, HBL.out⟩⟩
  · have hq : (x.toList == (kw).toList) = false := by rw [bytes_eq]; exact decide_eq_false hx
    have HF : Hid (headK kw.data.toList s.data.toList = none) := Lib.hid (by rw [HP.out, if_neg]; rintro ⟨h, _⟩; exact hx h)
    clear hx his
    go_wp2
    go_quiet (fail)
    go_wp2
    go_ret2
    exact ⟨⟨HB.out.os, HB.out.tape, HB.out.output, HB.out.size, HB.out.block⟩, .inl ⟨HF.out, _, _, _, rfl⟩⟩
end Go.Proofs.YtpmbijlldoiplaaGreatDoor
/- The reference's Number. -/
namespace Go.Proofs.YtpmbijlldoiplaaGreatDoor
open Go.RowKit Pl

theorem dec_next (s : ByteArray) (k : Nat) (h : k < s.size) : decV (s.data.toList.take (k + 1)) = 10 * decV (s.data.toList.take k) + (s[k].toNat - 48) := by
  have h1 := byte_at s k h
  have hl : k < s.data.toList.length := by rw [← Lib.size_eq]; exact h
  rw [List.getElem?_eq_getElem hl] at h1
  rw [List.take_succ_eq_append_getElem hl, decV_snoc, Option.some.inj h1]
theorem sat_step (n D q : Nat) (hq : q ≤ 9) (hn : n = min D 9223372036854775807) :
    ((9223372036854775807 - q) / 10 < n → 9223372036854775807 = min (10 * D + q) 9223372036854775807) ∧ (n ≤ (9223372036854775807 - q) / 10 → 10 * n + q = min (10 * D + q) 9223372036854775807) := by
  constructor <;> intro h <;> omega

set_option maxRecDepth 100000 in
set_option maxHeartbeats 4000000 in
theorem RNumber_any (s : ByteArray) (hs : s.size ≤ 1000000) (w : World) :
    Calls Tryz.prog 108 #[.string s] w fun e w' => e = .returned (numT s.data.toList) ∧ w = w' := by
  by_cases h0 : s.size = 0
  · have e : s = ⟨#[]⟩ := by
      apply ByteArray.ext
      exact Array.eq_empty_of_size_eq_zero h0
    subst e
    have HN : Hid (numT (⟨#[]⟩ : ByteArray).data.toList = .tuple #[.int .i64 0, .bool false]) := Lib.hid (numT_none rfl)
    clear h0
    go_enter Tryz.func108, Tryz.ntmps108
    go_wp2
    go_ret2
    exact ⟨by rw [HN.out]; rfl, rfl⟩
  · have hp : 0 < s.size := by omega
    have hne : s.toList.isEmpty = false := by
      rw [ByteArray.toList_eq, List.isEmpty_eq_false_iff]
      intro e
      have h9 : s.size = 0 := by rw [Lib.size_eq, e]; rfl
      omega
    have hne2 : ¬ s.toList = [] := by
      intro e
      rw [e] at hne
      cases hne
    clear h0
    have hhead : s.data.toList.head? = some s[0] := by
      rw [← byte_at s 0 hp]; exact List.head?_eq_getElem? ..
    by_cases hl1 : 1 < s.size
    · have hl1' : (1 : Int) < s.size := by omega
      by_cases hl2 : s[0].toNat = 48
      · have h48 : (((s[0].toNat : Nat) : Int) == 48) = true := by rw [beq_iff_eq]; omega
        have HN := Lib.hid (numT_none (numV_lead (l := s.data.toList) (by rw [← Lib.size_eq]; exact hl1) (by rw [hhead]; congr 1; exact UInt8.toNat_inj.1 hl2)))
        clear hl2 hhead
        go_enter Tryz.func108, Tryz.ntmps108
        go_wp2
        go_ret2
        exact ⟨by rw [HN.out]; rfl, rfl⟩
      · have h48 : (((s[0].toNat : Nat) : Int) == 48) = false := by rw [beq_eq_false_iff_ne]; omega
        have HL : Hid (¬ (1 < s.data.toList.length ∧ s.data.toList.head? = some 48)) := Lib.hid (by
          rw [hhead]
          rintro ⟨_, e⟩
          apply hl2
          have := Option.some.inj e
          rw [this]; rfl)
        clear hl2 hhead
        go_enter Tryz.func108, Tryz.ntmps108
        go_wp2
        go_loop [4, 5, 6, 21] (fun nv _ _ i => ∃ (k n : Nat), k ≤ s.size ∧ i = .int .i64 k ∧ nv = .int .i64 n ∧ n ≤ 9223372036854775807 ∧ Hid (n = min (decV (s.data.toList.take k)) 9223372036854775807 ∧ ∀ j (hj : j < s.size), j < k → digB s[j] = true)) (fun _ _ _ i => s.size - (intOf i).toNat)
        case atStart => exact ⟨0, 0, Nat.zero_le _, rfl, rfl, Nat.zero_le _, Lib.hid ⟨rfl, fun j _ hj => absurd hj (Nat.not_lt_zero _)⟩⟩
        case round =>
          obtain ⟨k, n, hk, rfl, rfl, hn, hgood⟩ := hrel
          by_cases hlt : k < s.size
          · cases hd : digB s[k]
            · have HN := Lib.hid (numT_none (numV_bad (not_dig s k hlt hd)))
              have hd2 : ((s[k].toNat : Nat) : Int) < 48 ∨ (57 : Int) < ((s[k].toNat : Nat) : Int) := by
                have h3 := not_congr (digB_iff s[k])
                rw [hd] at h3
                simp at h3
                omega
              have hub : s[k].toNat < 256 := s[k].toNat_lt
              obtain ⟨X, HX⟩ : ∃ X : Nat, Hid (s[k].toNat = X) := ⟨_, Lib.hid rfl⟩
              have HXq := HX.out
              rw [HXq] at hd2 hub
              clear hd
              rcases hd2 with hd2 | hd2
              · go_wp2
                go_ret2
                exact ⟨by rw [HN.out]; rfl, rfl⟩
              · have hd3 : ¬ ((X : Nat) : Int) < 48 := by omega
                go_wp2
                go_ret2
                exact ⟨by rw [HN.out]; rfl, rfl⟩
            · have hd1 := (digB_iff s[k]).1 hd
              obtain ⟨X, HX⟩ : ∃ X : Nat, Hid (s[k].toNat = X) := ⟨_, Lib.hid rfl⟩
              have HXq := HX.out
              rw [HXq] at hd1
              obtain ⟨q, hq⟩ : ∃ q : Nat, X = 48 + q := ⟨X - 48, by omega⟩
              have hq9 : q ≤ 9 := by omega
              have HD := Lib.hid (dec_next s k hlt)
              subst hq
              have HG : Hid (∀ j (hj : j < s.size), j < k + 1 → digB s[j] = true) := Lib.hid fun j hj hjk => by
                by_cases e : j = k
                · subst e; exact hd
                · exact hgood.out.2 j hj (by omega)
              have HT := Lib.hid (sat_step n (decV (s.data.toList.take k)) q hq9 hgood.out.1)
              clear hd hd1
              have hsub : ((48 : Int) + (q : Int) - 48) = (q : Int) := by omega
              by_cases hc : (9223372036854775807 - q) / 10 < n
              · have hc' : (9223372036854775807 - (48 + (q : Int) - 48)) / 10 < (n : Int) := by rw [hsub]; omega
                have HR : Hid (9223372036854775807 = min (decV (s.data.toList.take (k + 1))) 9223372036854775807) := Lib.hid (by rw [HD.out, HX.out, Nat.add_sub_cancel_left]; exact HT.out.1 hc)
                clear hc
                go_wp2
                go_round
                case rel => exact ⟨k + 1, 9223372036854775807, by omega, by go_num, by go_num, Nat.le_refl _, Lib.hid ⟨HR.out, HG.out⟩⟩
                case measure => simp [intOf]; omega
              · have hc' : (n : Int) ≤ (9223372036854775807 - (48 + (q : Int) - 48)) / 10 := by rw [hsub]; omega
                have HR : Hid (10 * n + q = min (decV (s.data.toList.take (k + 1))) 9223372036854775807) := Lib.hid (by rw [HD.out, HX.out, Nat.add_sub_cancel_left]; exact HT.out.2 (by omega))
                have hm : 10 * n + q ≤ 9223372036854775807 := by omega
                clear hc
                go_wp2
                go_round
                case rel => exact ⟨k + 1, 10 * n + q, by omega, by go_num, by go_num, hm, Lib.hid ⟨HR.out, HG.out⟩⟩
                case measure => simp [intOf]; omega
          · obtain rfl : k = s.size := by omega
            have hall := all_dig s (fun j hj => hgood.out.2 j hj hj)
            have hnn : s.data.toList ≠ [] := by
              intro e
              have h9 : s.size = 0 := by rw [Lib.size_eq, e]; rfl
              omega
            have hnv : (n : Int) = min (decV s.data.toList : Int) 9223372036854775807 := by
              have h := hgood.out.1
              rw [List.take_of_length_le (by rw [← Lib.size_eq]; exact Nat.le_refl _)] at h
              omega
            have hnt := numT_some (numV_good hnn HL.out hall)
            rw [← hnv] at hnt
            have HN := Lib.hid hnt
            clear hall hnn hnv hnt
            go_wp2
            go_ret2
            exact ⟨by rw [HN.out]; rfl, rfl⟩
    · have hl1' : ¬ (1 : Int) < s.size := by omega
      have hl1'' : (s.size : Int) ≤ 1 := by omega
      have HL : Hid (¬ (1 < s.data.toList.length ∧ s.data.toList.head? = some 48)) := Lib.hid (by
        rw [← Lib.size_eq]
        rintro ⟨h, _⟩
        omega)
      · clear hhead
        go_enter Tryz.func108, Tryz.ntmps108
        go_wp2
        go_loop [4, 5, 6, 21] (fun nv _ _ i => ∃ (k n : Nat), k ≤ s.size ∧ i = .int .i64 k ∧ nv = .int .i64 n ∧ n ≤ 9223372036854775807 ∧ Hid (n = min (decV (s.data.toList.take k)) 9223372036854775807 ∧ ∀ j (hj : j < s.size), j < k → digB s[j] = true)) (fun _ _ _ i => s.size - (intOf i).toNat)
        case atStart => exact ⟨0, 0, Nat.zero_le _, rfl, rfl, Nat.zero_le _, Lib.hid ⟨rfl, fun j _ hj => absurd hj (Nat.not_lt_zero _)⟩⟩
        case round =>
          obtain ⟨k, n, hk, rfl, rfl, hn, hgood⟩ := hrel
          by_cases hlt : k < s.size
          · cases hd : digB s[k]
            · have HN := Lib.hid (numT_none (numV_bad (not_dig s k hlt hd)))
              have hd2 : ((s[k].toNat : Nat) : Int) < 48 ∨ (57 : Int) < ((s[k].toNat : Nat) : Int) := by
                have h3 := not_congr (digB_iff s[k])
                rw [hd] at h3
                simp at h3
                omega
              have hub : s[k].toNat < 256 := s[k].toNat_lt
              obtain ⟨X, HX⟩ : ∃ X : Nat, Hid (s[k].toNat = X) := ⟨_, Lib.hid rfl⟩
              have HXq := HX.out
              rw [HXq] at hd2 hub
              clear hd
              rcases hd2 with hd2 | hd2
              · go_wp2
                go_ret2
                exact ⟨by rw [HN.out]; rfl, rfl⟩
              · have hd3 : ¬ ((X : Nat) : Int) < 48 := by omega
                go_wp2
                go_ret2
                exact ⟨by rw [HN.out]; rfl, rfl⟩
            · have hd1 := (digB_iff s[k]).1 hd
              obtain ⟨X, HX⟩ : ∃ X : Nat, Hid (s[k].toNat = X) := ⟨_, Lib.hid rfl⟩
              have HXq := HX.out
              rw [HXq] at hd1
              obtain ⟨q, hq⟩ : ∃ q : Nat, X = 48 + q := ⟨X - 48, by omega⟩
              have hq9 : q ≤ 9 := by omega
              have HD := Lib.hid (dec_next s k hlt)
              subst hq
              have HG : Hid (∀ j (hj : j < s.size), j < k + 1 → digB s[j] = true) := Lib.hid fun j hj hjk => by
                by_cases e : j = k
                · subst e; exact hd
                · exact hgood.out.2 j hj (by omega)
              have HT := Lib.hid (sat_step n (decV (s.data.toList.take k)) q hq9 hgood.out.1)
              clear hd hd1
              have hsub : ((48 : Int) + (q : Int) - 48) = (q : Int) := by omega
              by_cases hc : (9223372036854775807 - q) / 10 < n
              · have hc' : (9223372036854775807 - (48 + (q : Int) - 48)) / 10 < (n : Int) := by rw [hsub]; omega
                have HR : Hid (9223372036854775807 = min (decV (s.data.toList.take (k + 1))) 9223372036854775807) := Lib.hid (by rw [HD.out, HX.out, Nat.add_sub_cancel_left]; exact HT.out.1 hc)
                clear hc
                go_wp2
                go_round
                case rel => exact ⟨k + 1, 9223372036854775807, by omega, by go_num, by go_num, Nat.le_refl _, Lib.hid ⟨HR.out, HG.out⟩⟩
                case measure => simp [intOf]; omega
              · have hc' : (n : Int) ≤ (9223372036854775807 - (48 + (q : Int) - 48)) / 10 := by rw [hsub]; omega
                have HR : Hid (10 * n + q = min (decV (s.data.toList.take (k + 1))) 9223372036854775807) := Lib.hid (by rw [HD.out, HX.out, Nat.add_sub_cancel_left]; exact HT.out.2 (by omega))
                have hm : 10 * n + q ≤ 9223372036854775807 := by omega
                clear hc
                go_wp2
                go_round
                case rel => exact ⟨k + 1, 10 * n + q, by omega, by go_num, by go_num, hm, Lib.hid ⟨HR.out, HG.out⟩⟩
                case measure => simp [intOf]; omega
          · obtain rfl : k = s.size := by omega
            have hall := all_dig s (fun j hj => hgood.out.2 j hj hj)
            have hnn : s.data.toList ≠ [] := by
              intro e
              have h9 : s.size = 0 := by rw [Lib.size_eq, e]; rfl
              omega
            have hnv : (n : Int) = min (decV s.data.toList : Int) 9223372036854775807 := by
              have h := hgood.out.1
              rw [List.take_of_length_le (by rw [← Lib.size_eq]; exact Nat.le_refl _)] at h
              omega
            have hnt := numT_some (numV_good hnn HL.out hall)
            rw [← hnv] at hnt
            have HN := Lib.hid hnt
            clear hall hnn hnv hnt
            go_wp2
            go_ret2
            exact ⟨by rw [HN.out]; rfl, rfl⟩
end Go.Proofs.YtpmbijlldoiplaaGreatDoor
/- Plain facts: the reference's reading of a state's line, word by word, against the program's; nothing here is about a program. -/
namespace Go.Proofs.YtpmbijlldoiplaaGreatDoor.Pl
open Go Go.Lib

theorem foldR_halt {acts : List ByteArray} {r : Rd} {x : List UInt8} {ws : List (List UInt8)} (h : stepR acts r x = none) : foldR acts (some r) (x :: ws) = none := by
  rw [foldR_cons, h, foldR_none]
theorem foldR_go {acts : List ByteArray} {r r' : Rd} {x : List UInt8} {ws : List (List UInt8)} (h : stepR acts r x = some r') : foldR acts (some r) (x :: ws) = foldR acts (some r') ws := by
  rw [foldR_cons, h]
theorem step_arrow (acts : List ByteArray) (p : Int) (acc nx : List Int) : stepR acts ⟨0, p, acc, nx⟩ bArrow = some ⟨1, p, acc, nx⟩ := by
  unfold stepR
  rw [if_pos rfl, if_pos rfl]
theorem step_set {acts : List ByteArray} {x : List UInt8} (p : Int) (acc nx : List Int) (hx : x ≠ bArrow) {y : Nat} (hy : parseO acts x = some y) : stepR acts ⟨0, p, acc, nx⟩ x = some ⟨0, p, acc ++ [(y : Int)], nx⟩ := by
  unfold stepR
  rw [if_pos rfl, if_neg hx, hy]
theorem step_noset {acts : List ByteArray} {x : List UInt8} (p : Int) (acc nx : List Int) (hx : x ≠ bArrow) (hy : parseO acts x = none) : stepR acts ⟨0, p, acc, nx⟩ x = none := by
  unfold stepR
  rw [if_pos rfl, if_neg hx, hy]
theorem step_act {acts : List ByteArray} {x : List UInt8} {p : Int} (hp : -1 ≤ p) (acc nx : List Int) (h : ¬ idxOfS acts (mk x) ≤ p) : stepR acts ⟨1, p, acc, nx⟩ x = some ⟨2, idxOfS acts (mk x), acc, nx⟩ := by
  unfold stepR
  rw [if_neg (show ¬ (1 : Nat) = 0 by decide), if_pos rfl, if_neg (show ¬ (idxOfS acts (mk x) < 0 ∨ idxOfS acts (mk x) ≤ p) by omega)]
theorem step_noact {acts : List ByteArray} {x : List UInt8} {p : Int} (acc nx : List Int) (h : idxOfS acts (mk x) ≤ p) : stepR acts ⟨1, p, acc, nx⟩ x = none := by
  unfold stepR
  rw [if_neg (show ¬ (1 : Nat) = 0 by decide), if_pos rfl, if_pos (.inr h)]
theorem step_num {acts : List ByteArray} {x : List UInt8} (p : Int) (acc nx : List Int) {t : Int} (h : numV x = some t) : stepR acts ⟨2, p, acc, nx⟩ x = some ⟨1, p, acc, nx.set p.toNat t⟩ := by
  unfold stepR
  rw [if_neg (show ¬ (2 : Nat) = 0 by decide), if_neg (show ¬ (2 : Nat) = 1 by decide), h]
theorem step_nonum {acts : List ByteArray} {x : List UInt8} (p : Int) (acc nx : List Int) (h : numV x = none) : stepR acts ⟨2, p, acc, nx⟩ x = none := by
  unfold stepR
  rw [if_neg (show ¬ (2 : Nat) = 0 by decide), if_neg (show ¬ (2 : Nat) = 1 by decide), h]
/-- an odd number of words behind the arrow describes no state -/
theorem fold_odd (acts : List ByteArray) : ∀ (m : Nat) (ws : List (List UInt8)) (p : Int) (acc nx : List Int), ws.length = 2 * m + 1 → rdO (foldR acts (some ⟨1, p, acc, nx⟩) ws) = none
  | 0, ws, p, acc, nx, h => by
    match ws, h with
    | [x], _ =>
      rw [foldR_cons]
      show rdO (stepR acts ⟨1, p, acc, nx⟩ x) = none
      unfold stepR
      rw [if_neg (show ¬ (1 : Nat) = 0 by decide), if_pos rfl]
      split <;> rfl
  | m + 1, ws, p, acc, nx, h => by
    match ws, h with
    | x :: y :: ws, h =>
      have hl : ws.length = 2 * m + 1 := by simp at h; omega
      rw [foldR_cons]
      cases h1 : stepR acts ⟨1, p, acc, nx⟩ x with
      | none => rw [foldR_none]; rfl
      | some r =>
        have hr : ∃ p' acc' nx', r = ⟨2, p', acc', nx'⟩ := by
          unfold stepR at h1
          rw [if_neg (show ¬ (1 : Nat) = 0 by decide), if_pos rfl] at h1
          split at h1
          · cases h1
          · exact ⟨_, _, _, (Option.some.inj h1).symm⟩
        obtain ⟨p', acc', nx', rfl⟩ := hr
        rw [foldR_cons]
        cases h2 : numV y with
        | none => rw [step_nonum _ _ _ h2, foldR_none]; rfl
        | some t => rw [step_num _ _ _ h2]; exact fold_odd acts m ws _ _ _ hl
/-- the numbers of a reading are an int's -/
def RdFit (r : Rd) : Prop := (∀ x ∈ r.acc, 0 ≤ x ∧ x < 256) ∧ ∀ x ∈ r.next, -1 ≤ x ∧ x ≤ 9223372036854775807
end Go.Proofs.YtpmbijlldoiplaaGreatDoor.Pl
/- The reference's String of a specification. -/
namespace Go.Proofs.YtpmbijlldoiplaaGreatDoor
open Go.RowKit Pl

/-- behind x states, the number of the next one and y of its sets -/
def rdA (s : Spc) (x y : Nat) : List UInt8 := textY s x ++ (Lib.decDigits x ++ [58]) ++ lineA s.acts (teAt s.states x) y
/-- .. all of its sets, the arrow, and what stands for y actions -/
def rdB (s : Spc) (x y : Nat) : List UInt8 := textY s x ++ (Lib.decDigits x ++ [58]) ++ lineB s.acts (teAt s.states x) y
theorem rdA_zero (s : Spc) (x : Nat) : rdA s x 0 = textY s x ++ (Lib.decDigits x ++ [58]) := by unfold rdA; rw [lineA_zero, List.append_nil]
theorem rdA_next (s : Spc) (x y : Nat) (h : y < (teAt s.states x).1.length) : rdA s x (y + 1) = rdA s x y ++ (32 :: setS s.acts ((teAt s.states x).1.getD y 0).toNat) := by
  unfold rdA
  rw [lineA_next _ _ _ h, ← List.append_assoc]
theorem rdB_zero (s : Spc) (x : Nat) : rdB s x 0 = rdA s x (teAt s.states x).1.length ++ [32, 45, 62] := by
  unfold rdA rdB
  rw [lineB_zero, ← List.append_assoc]
theorem rdB_none (s : Spc) (x y : Nat) (h : (teAt s.states x).2.getD y 0 = -1) : rdB s x (y + 1) = rdB s x y := by
  unfold rdB
  rw [lineB_none _ _ _ h]
theorem rdB_some (s : Spc) (x y : Nat) (h : (teAt s.states x).2.getD y 0 ≠ -1) : rdB s x (y + 1) = rdB s x y ++ (32 :: (at_ s.acts y).data.toList ++ 32 :: Lib.decDigits ((teAt s.states x).2.getD y 0).toNat) := by
  unfold rdB
  rw [lineB_some _ _ _ h, ← List.append_assoc]
theorem rdB_end (s : Spc) {x : Nat} (hx : x < s.states.length) : rdB s x (teAt s.states x).2.length ++ [10] = textY s (x + 1) := by
  unfold rdB
  rw [textY_next s hx, lineB_all]
  simp
theorem rdA_len {s : Spc} (hv : spcB s = true) (h : ∀ i, i < s.states.length → ∀ z ∈ (teAt s.states i).1, z ≤ 9223372036854775807) {x : Nat} (hx : x < s.states.length) (y : Nat) : (rdA s x y).length ≤ 40000000 := by
  have h1 := textY_len hv h x (by omega)
  have h2 := (steLine_of hv hx (h x hx)).a y
  have h3 := ((spcB_iff s).1 hv).2.2.1
  have h4 := dec_length x (by omega)
  unfold rdA
  simp only [List.length_append, List.length_cons, List.length_nil]
  omega
theorem rdB_len {s : Spc} (hv : spcB s = true) (h : ∀ i, i < s.states.length → ∀ z ∈ (teAt s.states i).1, z ≤ 9223372036854775807) {x : Nat} (hx : x < s.states.length) {y : Nat} (hy : y ≤ (teAt s.states x).2.length) : (rdB s x y).length ≤ 40000000 := by
  have h1 := textY_len hv h x (by omega)
  have h2 := (steLine_of hv hx (h x hx)).b hy
  have h3 := ((spcB_iff s).1 hv).2.2.1
  have h4 := dec_length x (by omega)
  unfold rdB
  simp only [List.length_append, List.length_cons, List.length_nil]
  omega
theorem rdA_pos (s : Spc) (x y : Nat) : 0 < (rdA s x y).length := by unfold rdA; simp only [List.length_append, List.length_cons, List.length_nil]; omega
theorem rdB_pos (s : Spc) (x y : Nat) : 0 < (rdB s x y).length := by unfold rdB; simp only [List.length_append, List.length_cons, List.length_nil]; omega
theorem textY_pos (s : Spc) (x : Nat) : 0 < (textY s x).length := by unfold textY objK; simp only [List.length_append, List.length_cons, List.length_nil]; omega
theorem textY_zero (s : Spc) : textY s 0 = headL bSpec s.acts ++ [10] := by simp [textY, objK]
theorem textY_all (s : Spc) : textY s s.states.length = strSp s := by unfold textY strSp objS; rw [List.length_map]
/-- a row of bytes lies apart from a block of slices -/
theorem brow_far {B : Nat} {w : World} {v : Value} {l : List UInt8} {X : Nat} {t : TypeId} {a1 : Option Addr} {n1 c1 : Nat} {y : Value} (h : BRow B w v l) (hl : 0 < l.length) (hw : Whole w X t #[.slice a1 n1 c1, y]) : some X ≠ v.ownBlock := by
  obtain ⟨g, cap, rfl, _, _, _, _, h6, _⟩ := h
  intro e
  simp only [Value.ownBlock, Option.some.injEq] at e
  subst e
  have h1 := h6 0 hl
  have h2 := hw.cell 0
  rw [h1] at h2
  simp [byteV] at h2

set_option maxRecDepth 100000 in
set_option maxHeartbeats 8000000 in
theorem RSpString_any {w : World} {a : Option Addr} {n c : Nat} {b : Option Addr} {k d : Nat} {s : Spc} (A : SpecArg w a n c b k d s) (hv : spcB s = true) :
    Calls Tryz.prog 19 #[.agg #[.slice a n c, .slice b k d]] w fun e w' => e = .returned (.string (mk (strSp s))) ∧ Below w.heap.size w w' := by
  obtain ⟨i0, hi, hz0, hz1, hz2⟩ := info_parts infoByte
  have hB := (Below.refl w.heap.size w).alloc (Nat.le_refl _) (.cells #[.slice a n c, .slice b k d] 40)
  have hs := (spcB_iff s).1 hv
  have HRg : Hid (∀ i, i < s.states.length → ∀ z ∈ (teAt s.states i).1, z ≤ 9223372036854775807) := Lib.hid fun i hi => by
    obtain ⟨_, _, _, _, _, _, _, _, _, _, _, h1, _⟩ := A.rows i hi
    exact h1.le
  have HS := Lib.hid hv
  have hW := Whole.new w 40 #[.slice a n c, .slice b k d]
  obtain ⟨w1, hw1⟩ : ∃ w1, w.alloc (.cells #[.slice a n c, .slice b k d] 40) = w1 := ⟨_, rfl⟩
  rw [hw1] at hB hW
  have HW1' := Lib.hid hw1
  have hA := A.below hB
  have HH := Lib.hid (HeadK_any bSpec (by decide) hA.acts hs.1)
  have HOk := Lib.hid hs.1
  have hn8 : n ≤ 8 := by have := ((actsB_iff s.acts).1 hs.1).1; have := A.acts.len; omega
  have hk5 : k ≤ 500 := by have := A.len; omega
  have HA := Lib.hid hA
  have HB0 := Lib.hid hB
  have hz10 : w.heap.size < w1.heap.size := hW.lt
  have q0 : w1.cell? ⟨w.heap.size, 0, none⟩ = some (.slice a n c) := hW.cell 0
  have q1 : w1.cell? ⟨w.heap.size, 1, none⟩ = some (.slice b k d) := hW.cell 1
  clear hB hA A hs hv hW hw1
  go_enter Tryz.func19, Tryz.ntmps19
  go_wp2_with fail
  rw [HW1'.out]
  refine HH.out.mono ?_
  rintro e w2 ⟨v2, rfl, hrow, hb2⟩
  rw [← textY_zero] at hrow
  have p1 : w2.cell? ⟨w.heap.size, 1, none⟩ = some (.slice b k d) := up_cell hb2 q1
  have HR2 := Lib.hid hrow
  have Hb2 := Lib.hid hb2
  clear hrow hb2
  go_wp2
  go_loopw [3, 4, 5, 7, 8, 9, 16, 29, 46] (fun v _ _ _ _ _ i _ _ wr => ∃ x : Nat, x ≤ k ∧ i = .int .i64 x ∧ BRow w1.heap.size wr v (textY s x) ∧ Below w1.heap.size w1 wr) (fun _ _ _ _ _ _ i _ _ _ => k - (intOf i).toNat)
  case atStart => exact ⟨0, Nat.zero_le _, rfl, HR2.out, Hb2.out⟩
  case round =>
    obtain ⟨w0, hw0⟩ : ∃ z, z = wr := ⟨_, rfl⟩
    subst hw0
    obtain ⟨x, hx, rfl, hrow, hbx⟩ := hrel
    obtain ⟨va, vc, rfl⟩ := hrow.slice
    have HBx := Lib.hid hrow
    have Hbx := Lib.hid hbx
    have hzx := hbx.size
    clear hrow hbx
    by_cases hlt2 : x < k
    · have hxs : x < s.states.length := by have := HA.out.len; omega
      have HXs := Lib.hid hxs
      have HLn := Lib.hid (steLine_of HS.out hxs (HRg.out x hxs))
      obtain ⟨bx2, off2, rfl, a1, n1, c1, a2, n2, c2, c0, c0', hN1, hN2⟩ := HA.out.rows x hxs
      have d0 : w0.cell? ⟨bx2, off2 + x * 2, none⟩ = some (.slice a1 n1 c1) := (Hbx.out.cell (lt_of_cell c0)).trans c0
      have d1 : w0.cell? ⟨bx2, off2 + x * 2 + 1, none⟩ = some (.slice a2 n2 c2) := (Hbx.out.cell (lt_of_cell c0')).trans c0'
      clear c0 c0' hxs
      have H1 := Lib.hid hN1
      have H2 := Lib.hid hN2
      have hn1 : n1 ≤ 256 := by have := hN1.arg.len; have := HLn.out.few; omega
      have hn2 : n2 ≤ 8 := by have := hN2.arg.len; have := HLn.out.len; have := HA.out.acts.len; omega
      clear hN1 hN2
      have HI := Lib.hid (fun W => Digits_any x (by omega) W)
      obtain ⟨D, HD⟩ : ∃ D, Hid (mk (Lib.decDigits x) = D) := ⟨_, Lib.hid rfl⟩
      rw [HD.out] at HI
      have hD : D.size ≤ 21 := by rw [← HD.out, mk_size']; exact dec_length x (by omega)
      have hcol : (⟨#[58]⟩ : ByteArray).size = 1 := rfl
      have hadd1 : ¬ 9223372036854775807 < D.size + 1 := by omega
      have hadd2 : ¬ 9223372036854775807 < D.size + (⟨#[58]⟩ : ByteArray).size := by omega
      have HN : Hid (textY s x ++ (D ++ (⟨#[58]⟩ : ByteArray)).data.toList = rdA s x 0) := Lib.hid (by
        rw [rdA_zero, ← HD.out]
        simp [ByteArray.data_append, mk])
      have HXl : Hid ((textY s x).length + (D ++ (⟨#[58]⟩ : ByteArray)).data.toList.length ≤ 140737488355328) := Lib.hid (by
        have := rdA_len HS.out HRg.out HXs.out 0
        rw [← HN.out, List.length_append] at this
        omega)
      have hal : Below w0.heap.size w0 (w0.alloc (.cells #[.slice a1 n1 c1, .slice a2 n2 c2] 101)) := (Below.refl _ w0).alloc (Nat.le_refl _) _
      have HAl := Lib.hid hal
      have HBox := Lib.hid (Whole.new w0 101 #[.slice a1 n1 c1, .slice a2 n2 c2])
      have HBr := Lib.hid (HBx.out.below hal)
      obtain ⟨X, HX⟩ : ∃ z, Hid (w0.heap.size = z) := ⟨_, Lib.hid rfl⟩
      rw [HX.out] at HBox
      have HFar0 := Lib.hid (brow_far HBr.out (textY_pos s x) HBox.out)
      clear hal
      go_wp2_with fail
      refine (HI.out _).mono ?_
      rintro e wI ⟨rfl, rfl⟩
      go_wp2_with (at_builtin; (refine wpList_append_bytes rfl (.tmp 21) (.tmp 24) 104 9 rfl w1.heap.size 5 i0 Tryz.underlying104 hi hz0 hz1 hz2 _ rfl (textY s x) HBr.out (by simp; omega) (.string (D ++ (⟨#[58]⟩ : ByteArray))) rfl (D ++ (⟨#[58]⟩ : ByteArray)).data.toList (str_src _ _) HXl.out ?_); intro v5 w5 hB5 hg5; refine Hid.out ?_)
      refine Lib.hid ?_
      rw [HN.out] at hB5
      have HBox5 := Lib.hid (HBox.out.grown hg5 HFar0.out)
      have Hb15 := Lib.hid ((Hbx.out.trans (HAl.out.mono hzx)).grown hg5 (by simp; omega) HBr.out.ge)
      have HB5 := Lib.hid hB5
      have y0 := HBox5.out.cell 0
      simp only [List.getElem?_toArray, List.getElem?_cons_zero] at y0
      rw [HX.out]
      clear hB5 hg5
      go_wp2
      go_loopw [3, 7, 29] (fun v _ i wr => ∃ y : Nat, y ≤ n1 ∧ i = .int .i64 y ∧ BRow w1.heap.size wr v (rdA s x y) ∧ Hid (Whole wr X 101 #[.slice a1 n1 c1, .slice a2 n2 c2]) ∧ Below w1.heap.size w1 wr) (fun _ _ i _ => n1 - (intOf i).toNat)
      case atStart => exact ⟨0, Nat.zero_le _, rfl, HB5.out, HBox5, Hb15.out⟩
      case round =>
        obtain ⟨y, hy, rfl, hBy, hbox, hby⟩ := hrel
        obtain ⟨ya, yc, rfl⟩ := hBy.slice
        have HBy := Lib.hid hBy
        have Hby := Lib.hid hby
        have hzy := hby.size
        have o1 : wr.cell? ⟨w.heap.size, 0, none⟩ = some (.slice a n c) := (hby.cell (lt_of_cell q0)).trans q0
        have HFar := Lib.hid (brow_far hBy (rdA_pos s x y) hbox.out)
        clear hBy hby
        by_cases hlt3 : y < n1
        · obtain ⟨be, oe, rfl, e1⟩ := (H1.out.arg.below Hby.out).cells y (by have := H1.out.arg.len; omega)
          obtain ⟨Z, HZ⟩ : ∃ z, Hid ((teAt s.states x).1.getD y 0 = z) := ⟨_, Lib.hid rfl⟩
          rw [HZ.out] at e1
          have hZs := HLn.out.sets Z (by rw [← HZ.out, List.getD_eq_getElem?_getD, List.getElem?_eq_getElem (by have := H1.out.arg.len; omega)]; exact List.getElem_mem _)
          obtain ⟨u, hu⟩ := Int.eq_ofNat_of_zero_le hZs.1
          have hu8 : u < 2 ^ n := by have := hZs.2; rw [hu] at this; rw [HA.out.acts.len]; exact this
          have hu256 : u < 256 := Nat.lt_of_lt_of_le hu8 (Nat.pow_le_pow_right (n := 2) (by decide) hn8)
          have HSt := Lib.hid (RString_any u hu256 HOk.out (HA.out.acts.below Hby.out))
          have HOp := Lib.hid (open_set (ss := s.acts) hn8 hu256 hu8)
          have HUz : Hid ((teAt s.states x).1.getD y 0 = (u : Int)) := Lib.hid (by rw [HZ.out, hu])
          have hSl := setSp_len HOk.out (y := u) (by rw [← HA.out.acts.len]; exact hu8)
          have HSl := Lib.hid hSl
          rw [hu] at e1
          clear hZs hu hu8 hSl
          go_wp2_with fail
          refine HSt.out.mono ?_
          rintro e wS ⟨⟨S, rfl, hS⟩, rfl⟩
          rw [HOp.out] at hS
          have hSs : S.size ≤ 200 := by rw [Lib.size_eq, hS]; exact HSl.out
          have HSd := Lib.hid hS
          have hsp : (⟨#[32]⟩ : ByteArray).size = 1 := rfl
          have hadd3 : ¬ 9223372036854775807 < (⟨#[32]⟩ : ByteArray).size + S.size := by omega
          have hadd4 : ¬ 9223372036854775807 < 1 + S.size := by omega
          have HN2 : Hid (rdA s x y ++ ((⟨#[32]⟩ : ByteArray) ++ S).data.toList = rdA s x (y + 1)) := Lib.hid (by
            rw [rdA_next s x y (by have := H1.out.arg.len; omega), HUz.out, Int.toNat_natCast, ← HSd.out]
            simp [ByteArray.data_append])
          have HL2 : Hid ((rdA s x y).length + ((⟨#[32]⟩ : ByteArray) ++ S).data.toList.length ≤ 140737488355328) := Lib.hid (by
            have := rdA_len HS.out HRg.out HXs.out (y + 1)
            rw [← HN2.out, List.length_append] at this
            omega)
          clear hS
          go_wp2_with (at_builtin; (refine wpList_append_bytes rfl (.tmp 33) (.tmp 38) 104 9 rfl w1.heap.size 5 i0 Tryz.underlying104 hi hz0 hz1 hz2 _ rfl (rdA s x y) HBy.out hzy (.string ((⟨#[32]⟩ : ByteArray) ++ S)) rfl ((⟨#[32]⟩ : ByteArray) ++ S).data.toList (str_src _ _) HL2.out ?_); intro v7 w7 hB7 hg7; refine Hid.out ?_)
          refine Lib.hid ?_
          rw [HN2.out] at hB7
          have HB7 := Lib.hid hB7
          have HBox7 := Lib.hid (hbox.out.grown hg7 HFar.out)
          have Hb7 := Lib.hid (Hby.out.grown hg7 hzy HBy.out.ge)
          clear hB7 hg7
          go_wp2
          go_roundw
          case rel => exact ⟨y + 1, by omega, by go_num, HB7.out, HBox7, Hb7.out⟩
          case measure => simp [intOf]; omega
        · have HNB : Hid (rdA s x y ++ (⟨#[32, 45, 62]⟩ : ByteArray).data.toList = rdB s x 0) := Lib.hid (by
            rw [rdB_zero, show y = (teAt s.states x).1.length by have := H1.out.arg.len; omega])
          have HLB : Hid ((rdA s x y).length + (⟨#[32, 45, 62]⟩ : ByteArray).data.toList.length ≤ 140737488355328) := Lib.hid (by
            have := rdA_len HS.out HRg.out HXs.out y
            have h3 : (⟨#[32, 45, 62]⟩ : ByteArray).data.toList.length = 3 := rfl
            omega)
          obtain ⟨w8, hw8⟩ : ∃ z, z = wr := ⟨_, rfl⟩
          subst hw8
          go_wp2_with (at_builtin; (refine wpList_append_bytes rfl (.tmp 41) (.const (.string ⟨#[32, 45, 62]⟩)) 104 9 rfl w1.heap.size 5 i0 Tryz.underlying104 hi hz0 hz1 hz2 _ rfl (rdA s x y) HBy.out hzy (.string (⟨#[32, 45, 62]⟩ : ByteArray)) rfl (⟨#[32, 45, 62]⟩ : ByteArray).data.toList (str_src _ _) HLB.out ?_); intro v9 w9 hB9 hg9; refine Hid.out ?_)
          refine Lib.hid ?_
          rw [HNB.out] at hB9
          have HB9 := Lib.hid hB9
          have hbox9 := hbox.out.grown hg9 HFar.out
          have HBox9 := Lib.hid hbox9
          have Hb9 := Lib.hid (Hby.out.grown hg9 hzy HBy.out.ge)
          have y1 := hbox9.cell 1
          simp only [List.getElem?_toArray, List.getElem?_cons_succ, List.getElem?_cons_zero] at y1
          clear hB9 hg9 hbox9
          go_wp2
          go_loopw [3, 8, 9, 46] (fun v _ _ i wr => ∃ y : Nat, y ≤ n2 ∧ i = .int .i64 y ∧ BRow w1.heap.size wr v (rdB s x y) ∧ Below w1.heap.size w1 wr) (fun _ _ _ i _ => n2 - (intOf i).toNat)
          case atStart => exact ⟨0, Nat.zero_le _, rfl, HB9.out, Hb9.out⟩
          case round =>
            obtain ⟨y2, hy2, rfl, hBy2, hby2⟩ := hrel
            obtain ⟨za, zc, rfl⟩ := hBy2.slice
            have HBy2 := Lib.hid hBy2
            have Hby2 := Lib.hid hby2
            have hzy2 := hby2.size
            have o2 : wr.cell? ⟨w.heap.size, 0, none⟩ = some (.slice a n c) := (hby2.cell (lt_of_cell q0)).trans q0
            clear hBy2 hby2
            by_cases hlt4 : y2 < n2
            · obtain ⟨bk, ok, rfl, f1⟩ := (H2.out.arg.below Hby2.out).cells y2 (by have := H2.out.arg.len; omega)
              obtain ⟨Z, HZ⟩ : ∃ z, Hid ((teAt s.states x).2.getD y2 0 = z) := ⟨_, Lib.hid rfl⟩
              rw [HZ.out] at f1
              have hZs := HLn.out.nums y2 (by have := H2.out.arg.len; omega)
              rw [HZ.out] at hZs
              have h500 := HLn.out.low
              by_cases hZ : Z = -1
              · have hq : ¬ (0 : Int) ≤ Z := by omega
                have HBn : Hid (BRow w1.heap.size wr (.slice za (rdB s x y2).length zc) (rdB s x (y2 + 1))) := Lib.hid (by rw [rdB_none s x y2 (by rw [HZ.out]; exact hZ)]; exact HBy2.out)
                clear hZs hZ
                go_wp2
                go_roundw
                case rel => exact ⟨y2 + 1, by omega, by go_num, HBn.out, Hby2.out⟩
                case measure => simp [intOf]; omega
              · obtain ⟨v, hv⟩ : ∃ v : Nat, Z = (v : Int) := ⟨Z.toNat, by omega⟩
                have hv5 : v < 500 := by omega
                have HZv : Hid ((teAt s.states x).2.getD y2 0 = (v : Int)) := Lib.hid (by rw [HZ.out, hv])
                have hq : (0 : Int) ≤ (v : Int) := by omega
                rw [hv] at f1
                have hyn : y2 < n := by have := H2.out.arg.len; have := HLn.out.len; have := HA.out.acts.len; omega
                obtain ⟨ba, oa, rfl, a0⟩ := HA.out.acts.cells y2 (by have := HA.out.acts.len; omega)
                obtain ⟨z, Hz⟩ : ∃ z, Hid (at_ s.acts y2 = z) := ⟨_, Lib.hid rfl⟩
                change w1.cell? _ = some (.string (at_ s.acts y2)) at a0
                rw [Hz.out] at a0
                have a1' := (Hby2.out.cell (lt_of_cell a0)).trans a0
                have hzs : z.size ≤ 20 := by
                  have := nm_len HOk.out (k := y2) (by have := HA.out.acts.len; omega)
                  rw [Hz.out] at this
                  rw [Lib.size_eq]; exact this
                obtain ⟨D2, HD2⟩ : ∃ D, Hid (mk (Lib.decDigits v) = D) := ⟨_, Lib.hid rfl⟩
                have hD2 : D2.size ≤ 21 := by rw [← HD2.out, mk_size']; exact dec_length v (by omega)
                have hsp : (⟨#[32]⟩ : ByteArray).size = 1 := rfl
                have HN4 : Hid (rdB s x y2 ++ ((⟨#[32]⟩ : ByteArray) ++ z ++ (⟨#[32]⟩ : ByteArray) ++ D2).data.toList = rdB s x (y2 + 1)) := Lib.hid (by
                  rw [rdB_some s x y2 (by rw [HZv.out]; omega), HZv.out, ← HD2.out, Hz.out]
                  simp [ByteArray.data_append, mk])
                have HL4 : Hid ((rdB s x y2).length + ((⟨#[32]⟩ : ByteArray) ++ z ++ (⟨#[32]⟩ : ByteArray) ++ D2).data.toList.length ≤ 140737488355328) := Lib.hid (by
                  have := rdB_len HS.out HRg.out HXs.out (y := y2 + 1) (by have := H2.out.arg.len; omega)
                  rw [← HN4.out, List.length_append] at this
                  omega)
                have hy0 : (0 : Int) ≤ (y2 : Int) := by omega
                have hy1 : (y2 : Int) < n := by omega
                have HBr2 : Hid (BRow w1.heap.size wr.drew (.slice za (rdB s x y2).length zc) (rdB s x y2)) := Lib.hid HBy2.out.drew
                clear a0 hZs hZ hv h500
                have hadd1 : ¬ 9223372036854775807 < (⟨#[32]⟩ : ByteArray).size + z.size := by omega
                have hadd2 : ¬ 9223372036854775807 < ((⟨#[32]⟩ : ByteArray) ++ z).size + (⟨#[32]⟩ : ByteArray).size := by rw [ByteArray.size_append]; omega
                have hadd3 : ¬ 9223372036854775807 < ((⟨#[32]⟩ : ByteArray) ++ z ++ (⟨#[32]⟩ : ByteArray)).size + D2.size := by rw [ByteArray.size_append, ByteArray.size_append]; omega
                have hadd4 : ¬ 9223372036854775807 < 1 + z.size := by omega
                have hadd5 : ¬ 9223372036854775807 < 1 + z.size + 1 := by omega
                have hadd6 : ¬ 9223372036854775807 < 1 + z.size + 1 + D2.size := by omega
                have hadd7 : ¬ 9223372036854775807 < ((⟨#[32]⟩ : ByteArray) ++ z).size + 1 := by rw [ByteArray.size_append]; omega
                have HKeep : Hid (∀ wA : World, wr.grownBy wA (Value.slice za (rdB s x y2).length zc).ownBlock →
                    wA.cell? ⟨w.heap.size, 0, none⟩ = some (.slice (some ⟨ba, oa, none⟩) n c) ∧ wA.cell? ⟨ba, oa + y2, none⟩ = some (.string z)) := Lib.hid fun wA hg => by
                  obtain ⟨g, cap, hge, hgB, hgl, _⟩ := HBy2.out
                  have hr : (Value.slice za (rdB s x y2).length zc).ownBlock = some g := by rw [hge]; rfl
                  rw [hr] at hg
                  have kk : ∀ (p : Addr) (val : Value), wr.cell? p = some val → p.block ≠ g → wA.cell? p = some val := fun p val hp hne => by
                    rw [World.cell?_of_block (hg.block p.block (lt_of_cell hp) (fun e => hne (Option.some.inj e)))]
                    exact hp
                  obtain ⟨_, _, e9, h9⟩ := HA.out.acts.cells y2 (by have := HA.out.acts.len; omega)
                  cases e9
                  have l0 : ba < w1.heap.size := lt_of_cell h9
                  exact ⟨kk _ _ o2 (by simp; omega), kk _ _ a1' (by simp; omega)⟩
                go_wp2
                go_region_held3 (fun w' => w'.cell? ⟨w.heap.size, 0, none⟩ = some (.slice (some ⟨ba, oa, none⟩) n c) ∧ w'.cell? ⟨ba, oa + y2, none⟩ = some (.string z))
                  ((first | assumption | exact ⟨o2, a1'⟩ | go_keep))
                  (first
                    | (go_at_call 59; refine (Digits_any v (by omega) _).mono ?_; rw [HD2.out]; rintro e w' ⟨rfl, rfl⟩)
                    | (refine step_append_bytes rfl (.tmp 53) (.tmp 63) 104 9 rfl w1.heap.size 5 i0 Tryz.underlying104 hi hz0 hz1 hz2 (.slice za (rdB s x y2).length zc) rfl (rdB s x y2) HBr2.out (by simp; omega) (.string ((⟨#[32]⟩ : ByteArray) ++ z ++ (⟨#[32]⟩ : ByteArray) ++ D2)) rfl ((⟨#[32]⟩ : ByteArray) ++ z ++ (⟨#[32]⟩ : ByteArray) ++ D2).data.toList (str_src _ _) HL4.out ?_; intro vA wA hBA hgA; have kK := HKeep.out wA (grown_drew hgA)))
                rw [HN4.out] at hBA
                have HBA := Lib.hid hBA
                have HbA := Lib.hid (Hby2.out.grown (grown_drew hgA) hzy2 HBy2.out.ge)
                clear hBA hgA kK
                go_wp2
                go_roundw
                case rel => exact ⟨y2 + 1, by omega, by go_num, HBA.out, HbA.out⟩
                case measure => simp [intOf]; omega
            · have HN3 : Hid (rdB s x y2 ++ [10] = textY s (x + 1)) := Lib.hid (by
                have h3 : y2 = (teAt s.states x).2.length := by have := H2.out.arg.len; omega
                rw [h3]; exact rdB_end s HXs.out)
              have HL3 := Lib.hid (rdB_len HS.out HRg.out HXs.out (y := y2) (by have := H2.out.arg.len; omega))
              have hal : Below wr.heap.size wr (wr.alloc (.cells #[byteV 10] 5)) := (Below.refl _ wr).alloc (Nat.le_refl _) _
              go_wp2_with (at_builtin; (refine wpList_append_bytes rfl (.tmp 66) (.tmp 67) 104 104 rfl w1.heap.size 5 i0 Tryz.underlying104 hi hz0 hz1 hz2 _ rfl (rdB s x y2) (HBy2.out.below hal) (by simp; omega) (.slice (some ⟨wr.heap.size, 0, none⟩) 1 1) rfl [10] (one_byte wr 10 _) (by have := HL3.out; simp; omega) ?_); intro v6 w6 hB6 hg6; refine Hid.out ?_)
              refine Lib.hid ?_
              rw [HN3.out] at hB6
              have HB6 := Lib.hid hB6
              have Hb6 := Lib.hid ((Hby2.out.trans (hal.mono hzy2)).grown hg6 (by simp; omega) HBy2.out.ge)
              clear hB6 hg6 hal
              go_wp2
              go_roundw
              case rel => exact ⟨x + 1, by omega, by go_num, HB6.out, Hb6.out⟩
              case measure => simp [intOf]; omega
    · obtain rfl : x = k := by omega
      have HC := HBx.out.string
      have HN : Hid (textY s x = strSp s) := Lib.hid (by rw [HA.out.len]; exact textY_all s)
      have HF := Lib.hid (HB0.out.trans (Hbx.out.mono (Nat.le_of_lt hz10)))
      go_wp2_with (rw [HC])
      go_ret
      exact ⟨by rw [← HN.out]; rfl, HF.out⟩
end Go.Proofs.YtpmbijlldoiplaaGreatDoor
/- The reference's read: the line of a state. -/
namespace Go.Proofs.YtpmbijlldoiplaaGreatDoor
open Go.RowKit Pl

/-- the variable at block XB holds va and vn: the numbers acc and nx, in rows of their own -/
structure RxAt (w wr : World) (XB : Nat) (va vn : Value) (acc nx : List Int) : Prop where
  box : Whole wr XB 101 #[va, vn]
  acc : NumO wr w.heap.size va acc
  nx : NumO wr w.heap.size vn nx
  far : va.ownBlock = none ∨ va.ownBlock ≠ vn.ownBlock
  low : w.heap.size ≤ XB
  below : Below w.heap.size w wr
theorem RxAt.drew {w wr : World} {XB : Nat} {va vn : Value} {acc nx : List Int} (h : RxAt w wr XB va vn acc nx) : RxAt w wr.drew XB va vn acc nx :=
  ⟨h.box, h.acc, h.nx, h.far, h.low, h.below.drew⟩
theorem RxAt.up {w wr wA : World} {XB : Nat} {va vn : Value} {acc nx : List Int} (h : RxAt w wr XB va vn acc nx) (hb : Below wr.heap.size wr wA) : RxAt w wA XB va vn acc nx :=
  ⟨h.box.below hb h.box.lt, h.acc.below hb, h.nx.below hb, h.far, h.low, h.below.trans (hb.mono h.below.size)⟩
/-- an append to the second field -/
theorem RxAt.more {w wA wB : World} {XB : Nat} {vn v2 : Value} {nx nx' : List Int} (h : RxAt w wA XB (.slice none 0 0) vn [] nx) (hg : wA.grownBy wB vn.ownBlock) (hB : NumO wB w.heap.size v2 nx') :
    RxAt w (wB.setCell ⟨XB, 1, none⟩ v2) XB (.slice none 0 0) v2 [] nx' := by
  have hb := h.box.grown hg (own_whole h.nx h.box (by decide))
  have lo := h.low
  refine ⟨by simpa using hb.set 1 v2, World.ownsRow_nil _ _ _ _, ?_, .inl rfl, lo, (h.below.grown hg h.below.size (own_ge h.nx)).setCell (by simpa using lo) _⟩
  exact hB.kept (grown_self wB ⟨XB, 1, none⟩ v2) (.inr (own_whole hB hb (by decide)).symm)
/-- an append to the first field -/
theorem RxAt.push {w wA wB : World} {XB : Nat} {va vn v2 : Value} {acc acc' nx : List Int} (h : RxAt w wA XB va vn acc nx) (hg : wA.grownBy wB va.ownBlock) (hB : NumO wB w.heap.size v2 acc') (hat : v2.ownBlock = va.ownBlock ∨ v2.ownBlock = some wA.heap.size) :
    RxAt w (wB.setCell ⟨XB, 0, none⟩ v2) XB v2 vn acc' nx := by
  have hb := h.box.grown hg (own_whole h.acc h.box (by decide))
  have lo := h.low
  have far1 : vn.ownBlock = none ∨ vn.ownBlock ≠ va.ownBlock := by
    rcases h.far with e | e
    · rw [e]
      cases vn.ownBlock <;> simp
    · exact .inr (fun q => e q.symm)
  have hn := h.nx.kept hg far1
  refine ⟨by simpa using hb.set 0 v2, hB.kept (grown_self wB ⟨XB, 0, none⟩ v2) (.inr (own_whole hB hb (by decide)).symm), hn.kept (grown_self wB ⟨XB, 0, none⟩ v2) (.inr (own_whole hn hb (by decide)).symm), ?_, lo, (h.below.grown hg h.below.size (own_ge h.acc)).setCell (by simpa using lo) _⟩
  rcases hat with e | e
  · rw [e]; exact h.far
  · right
    rw [e]
    intro q
    have := (World.ownsRow.lt h.nx _ q.symm).2
    omega
/-- a store into the second field's row -/
theorem RxAt.put {w wr : World} {XB n cp : Nat} {ga : Option Addr} {va : Value} {acc nx : List Int} (h : RxAt w wr XB va (.slice ga n cp) acc nx) (hn : nx.length = n) (j : Nat) (hj : j < n) (u : Int) :
    ∃ g, ga = some ⟨g, 0, none⟩ ∧ wr.cell? ⟨g, j, none⟩ = some (.int .i64 (nx.getD j 0)) ∧ wr.frozen? ⟨g, j, none⟩ = false ∧ RxAt w (wr.setCell ⟨g, j, none⟩ (.int .i64 u)) XB va (.slice ga n cp) acc (nx.set j u) := by
  have h1 := h.nx
  unfold NumO at h1
  rw [hn] at h1
  rcases h1.2 with ⟨e, e0⟩ | ⟨g, cap, cur, e, _⟩
  · omega
  · simp only [Value.slice.injEq] at e
    obtain ⟨rfl, _, rfl⟩ := e
    have hs := World.ownsRow.stored h1 j (.int .i64 u)
    have e : ((nx.map (Value.int .i64)).set j (.int .i64 u)) = (nx.set j u).map (Value.int .i64) := by rw [List.map_set]
    rw [e] at hs
    have el : (nx.set j u).length = nx.length := List.length_set
    have g1 := own_whole h1 h.box (by decide)
    simp only [Value.ownBlock] at g1
    refine ⟨g, rfl, ?_, h1.frozenAt j, ⟨h.box.grown hs.2 g1, h.acc.kept hs.2 (by simpa [Value.ownBlock] using h.far), ?_, by simpa [Value.ownBlock] using h.far, h.low, h.below.setCell (own_ge h1 g rfl) _⟩⟩
    · rw [h1.cellAt j (by omega), List.getElem?_map, List.getElem?_eq_getElem (by omega), List.getD_eq_getElem?_getD, List.getElem?_eq_getElem (by omega)]
      rfl
    · unfold NumO; rw [el, hn]; exact hs.1

set_option maxRecDepth 100000 in
set_option maxHeartbeats 8000000 in
theorem RRead_any {w : World} {a : Option Addr} {n c : Nat} {acts : List ByteArray} (i : Nat) (s : ByteArray) (hi : i ≤ 1000000) (hs : s.size ≤ 1000000) (A : StrArg w a n c acts) (hact : actsB acts = true) :
    Calls Tryz.prog 63 #[.slice a n c, .string s, .int .i64 i] w fun e w' => Below w.heap.size w w' ∧
      ((rowK steO acts i s.data.toList = none ∧ ∃ pa pn pc qa qn qc, e = .returned (.tuple #[.agg #[.slice pa pn pc, .slice qa qn qc], .bool false])) ∨
        ∃ t p q, rowK steO acts i s.data.toList = some t ∧ e = .returned (.tuple #[.agg #[p, q], .bool true]) ∧ NumO w' w.heap.size p t.1 ∧ NumO w' w.heap.size q t.2 ∧ Fits t.1 ∧ Fits t.2) := by
  obtain ⟨i1, hi1, hz10, hz11, hz12⟩ := info_parts infoNumS
  have hn8 : n ≤ 8 := by have := ((actsB_iff acts).1 hact).1; have := A.len; omega
  have HNl : Hid (acts.length = n) := Lib.hid A.len.symm
  have HA := Lib.hid A
  have HACT := Lib.hid hact
  have hb0 := (Below.refl w.heap.size w).alloc (Nat.le_refl _) (.cells #[.slice none 0 0, .slice none 0 0] 101)
  have hres0 := Whole.new w 101 #[.slice none 0 0, .slice none 0 0]
  have HB0 := Lib.hid hb0
  have HRes0 := Lib.hid hres0
  clear A hact hb0 hres0
  obtain ⟨r, hr1, hr2, hr4, hr3⟩ := rowK_eq steO acts i s
  have hN2 := spB_count 32 s
  have HSp := RSplit_any s hs 32 (w.alloc (.cells #[.slice none 0 0, .slice none 0 0] 101))
  have h32 : ((32 : UInt8).toNat : Int) = 32 := rfl
  rw [h32] at HSp
  clear h32
  obtain ⟨ws, HWS⟩ : ∃ ws, Hid (spB 32 s = ws) := ⟨_, Lib.hid rfl⟩
  rw [HWS.out] at hr1 hr2 hr3 hN2 HSp
  have HSp := Lib.hid HSp
  have HR1 := Lib.hid hr1
  have HR3 := Lib.hid hr3
  have HSz : Hid (∀ x ∈ ws, x.size ≤ 1000000) := Lib.hid (by rw [← HWS.out]; exact fun x hx => Nat.le_trans (spB_size hx) hs)
  obtain ⟨N, HNw⟩ : ∃ N, Hid (ws.length = N) := ⟨_, Lib.hid rfl⟩
  rw [HNw.out] at HSp hN2 hr2
  have HR2 := Lib.hid hr2
  clear hr1 hr2 hr3 hr4
  go_enter Tryz.func63, Tryz.ntmps63
  go_wp2_with fail
  refine HSp.out.mono ?_
  rintro e w1 ⟨aw, cw, rfl, hAw, _, hb1⟩
  have hN1 : 0 < N := by have := HR2.out; omega
  obtain ⟨bw, ow, rfl, c0⟩ := hAw.cells 0 (by have := HNw.out; omega)
  change w1.cell? _ = some (.string (at_ ws 0)) at c0
  simp only [Nat.add_zero] at c0
  have hres1 := HRes0.out.below hb1 HRes0.out.lt
  have HRes1 := Lib.hid hres1
  have r0 := hres1.cell 0
  have r1 := hres1.cell 1
  have f0 := hres1.frozen 0
  have f1 := hres1.frozen 1
  have hz01 := hres1.lt
  simp only [List.getElem?_toArray, List.getElem?_cons_succ, List.getElem?_cons_zero] at r0 r1
  have HAw := Lib.hid hAw
  have HB1 := Lib.hid (HB0.out.trans (hb1.mono HB0.out.size))
  have hz1 := hb1.size
  clear hAw hb1 hres1
  have HI := fun (W : World) => Digits_any i (by omega) W
  obtain ⟨D, HD⟩ : ∃ D, Hid (mk (Lib.decDigits i) = D) := ⟨_, Lib.hid rfl⟩
  rw [HD.out] at HI
  have HI := Lib.hid HI
  have hD : D.size ≤ 21 := by rw [← HD.out, mk_size']; exact dec_length i (by omega)
  obtain ⟨x0, HX0⟩ : ∃ x, Hid (at_ ws 0 = x) := ⟨_, Lib.hid rfl⟩
  rw [HX0.out] at c0
  have hN0 : (0 : Int) < N := by omega
  have HP : Hid (rowK steO acts i s.data.toList = if x0 = D ++ (⟨#[58]⟩ : ByteArray) then steO acts r else none) := Lib.hid (by
    rw [HR3.out, HX0.out, ← HD.out, show (⟨#[58]⟩ : ByteArray) = mk [58] from rfl, mk_add])
  have hcol : (⟨#[58]⟩ : ByteArray).size = 1 := rfl
  have hadd1 : ¬ 9223372036854775807 < D.size + 1 := by omega
  have hadd2 : ¬ 9223372036854775807 < D.size + (⟨#[58]⟩ : ByteArray).size := by omega
  have g0 := (HRes1.out.set 0 (.slice none 0 0)).cell 0
  have g1 := ((HRes1.out.set 0 (.slice none 0 0)).set 1 (.slice none 0 0)).cell 1
  simp only [List.setIfInBounds_toArray, List.set_cons_zero, List.set_cons_succ, List.getElem?_toArray, List.getElem?_cons_succ, List.getElem?_cons_zero] at g0 g1
  by_cases hx : x0 = D ++ (⟨#[58]⟩ : ByteArray)
  · have hq : (x0.toList == (D ++ (⟨#[58]⟩ : ByteArray)).toList) = true := by rw [bytes_eq]; exact decide_eq_true hx
    have HP2 : Hid (rowK steO acts i s.data.toList = steO acts r) := Lib.hid (by rw [HP.out, if_pos hx])
    clear hx g0 g1
    go_wp2
    go_region_held3 (fun w' => w'.cell? ⟨bw, ow, none⟩ = some (.string x0))
      ((first | assumption | go_keep))
      (first | (go_at_call 59; refine (HI.out _).mono ?_; rintro e wI ⟨rfl, rfl⟩))
    have HXi : Hid (RxAt w1 (w1.alloc (.cells #[.slice none 0 0, .slice none 0 0] 101)).drew w1.heap.size (.slice none 0 0) (.slice none 0 0) [] []) := Lib.hid (RxAt.drew
      ⟨Whole.new w1 101 #[.slice none 0 0, .slice none 0 0], World.ownsRow_nil _ _ _ _, World.ownsRow_nil _ _ _ _, .inl rfl, Nat.le_refl _, (Below.refl _ w1).alloc (Nat.le_refl _) _⟩)
    obtain ⟨XB, HXB⟩ : ∃ z, Hid (w1.heap.size = z) := ⟨_, Lib.hid rfl⟩
    have hXB : w.heap.size < XB := by rw [← HXB.out]; exact hz01
    have HXbd := Lib.hid hXB
    rw [HXB.out] at HXi
    clear r0 r1 f0 f1 hadd1 hadd2 hcol hq
    go_wp2
    rw [HXB.out]
    go_loopw [29] (fun p wr => ∃ (j : Nat) (vn : Value), j ≤ n ∧ p = .int .i64 j ∧ Hid (RxAt w1 wr XB (.slice none 0 0) vn [] (List.replicate j (-1)))) (fun p _ => n - (intOf p).toNat)
    case atStart => exact ⟨0, _, Nat.zero_le _, rfl, HXi⟩
    case round =>
      obtain ⟨j, vn, hj, rfl, HR⟩ := hrel
      obtain ⟨ga, gc, hvn⟩ := own_slice' HR.out.nx
      rw [List.length_replicate] at hvn
      subst hvn
      have k1 := HR.out.box.cell 1
      simp only [List.getElem?_toArray, List.getElem?_cons_succ, List.getElem?_cons_zero] at k1
      have hzr := HR.out.below.size
      have hXr := HR.out.box.lt
      by_cases hlt : j < n
      · have hal : Below wr.heap.size wr (wr.alloc (.cells #[.int .i64 (-1)] 3)) := (Below.refl _ wr).alloc (Nat.le_refl _) _
        have HRa := Lib.hid (HR.out.up hal)
        have HOw : Hid ((wr.alloc (.cells #[.int .i64 (-1)] 3)).ownsRow w1.heap.size 3 1 (.slice ga j gc) j ((List.replicate j (-1 : Int)).map (Value.int .i64))) := Lib.hid (by
          have := HRa.out.nx
          unfold NumO at this
          rwa [List.length_replicate] at this)
        clear hal
        go_wp2_with (at_builtin; (refine wpList_append_sz rfl (.tmp 32) (.tmp 33) 28 rfl w1.heap.size 3 i1 (.int .i64 0) 1 8 Tryz.underlying28 hi1 hz10 hz11 hz12 rfl (by decide) (.slice ga j gc) rfl j _ HOw.out (some ⟨wr.heap.size, 0, none⟩) 1 1 rfl [.int .i64 (-1)] (fun h => by cases h) rfl (one_src _ _ _) (by simp [Value.oneCell']) (by unfold maxLen; omega) (by omega) (by simp; omega) ?_); intro v2 wB hB hgB hatB; refine Hid.out ?_)
        have hN2' : NumO wB w1.heap.size v2 (List.replicate (j + 1) (-1)) := by
          unfold NumO
          rw [List.length_replicate, List.replicate_succ', List.map_append]
          exact hB
        obtain ⟨xa, xc, rfl⟩ := own_slice' hB
        have kw := HRa.out.box.grown hgB (own_whole HRa.out.nx HRa.out.box (by decide))
        have m1 := kw.cell 1
        have m2 := kw.frozen 1
        have m3 := kw.lt
        simp only [List.getElem?_toArray, List.getElem?_cons_succ, List.getElem?_cons_zero] at m1
        have HNx := Lib.hid (HRa.out.more hgB hN2')
        clear hB hgB hatB hN2' kw
        refine Lib.hid ?_
        go_wp2
        go_roundw
        case rel => exact ⟨j + 1, _, by omega, by go_num, HNx⟩
        case measure => simp [intOf]; omega
      · obtain rfl : n = j := by omega
        have HF0 : Hid (OkR n ⟨0, -1, [], List.replicate n (-1)⟩ ∧ ([] : List Int).length ≤ 0 ∧ foldR acts (some (rd0 acts)) r = foldR acts (some ⟨0, -1, [], List.replicate n (-1)⟩) (r.drop 0)) := Lib.hid
          ⟨⟨by show (0 : Nat) ≤ 2; omega, fun e => (by cases e), by simp, fun x hx => (by simp at hx), fun x hx => by
            have := List.eq_of_mem_replicate hx
            omega⟩, Nat.le_refl _, by rw [List.drop_zero]; unfold rd0; rw [HNl.out]⟩
        clear k1 hzr hXr hlt
        obtain ⟨w3, hw3⟩ : ∃ z, z = wr := ⟨_, rfl⟩
        subst hw3
        go_wp2
        go_loopw [10, 11, 12] (fun p _ _ wr => ∃ (j : Nat) (va : Value) (acc : List Int), p = .int .i64 ((j + 1 : Nat) : Int) ∧ j + 1 ≤ N ∧ Hid (RxAt w1 wr XB va (.slice ga n gc) acc (List.replicate n (-1))) ∧ Hid (OkR n ⟨0, -1, acc, List.replicate n (-1)⟩ ∧ acc.length ≤ j ∧ foldR acts (some (rd0 acts)) r = foldR acts (some ⟨0, -1, acc, List.replicate n (-1)⟩) (r.drop j))) (fun p _ _ _ => N - (intOf p).toNat)
        case atStart => exact ⟨0, _, _, rfl, by omega, HR, HF0⟩
        case round =>
          obtain ⟨j, va, acc, rfl, hj, HR, hq⟩ := hrel
          obtain ⟨ha, hc, hva⟩ := own_slice' HR.out.acc
          obtain ⟨L, hL⟩ : ∃ z, acc.length = z := ⟨_, rfl⟩
          rw [hL] at hva
          subst hva
          have hLj : L ≤ j := by rw [← hL]; exact hq.out.2.1
          have HL := Lib.hid hL
          clear hL
          have k0 := HR.out.box.cell 0
          have k1 := HR.out.box.cell 1
          have hres := HRes1.out.below HR.out.below HRes1.out.lt
          have HRes := Lib.hid hres
          have b0 := hres.cell 0
          have b1 := hres.cell 1
          have f0 := hres.frozen 0
          have f1 := hres.frozen 1
          have hzr := HR.out.below.size
          have hXr := HR.out.box.lt
          have hRr := hres.lt
          simp only [List.getElem?_toArray, List.getElem?_cons_succ, List.getElem?_cons_zero] at k0 k1 b0 b1
          have g0 := (hres.set 0 (.slice none 0 0)).cell 0
          have g1 := ((hres.set 0 (.slice none 0 0)).set 1 (.slice none 0 0)).cell 1
          simp only [List.setIfInBounds_toArray, List.set_cons_zero, List.set_cons_succ, List.getElem?_toArray, List.getElem?_cons_succ, List.getElem?_cons_zero] at g0 g1
          clear hres
          have HBe := Lib.hid (((HB1.out.trans (HR.out.below.mono (Nat.le_of_lt hz01))).setCell (p := ⟨w.heap.size, 0, none⟩) (Nat.le_refl _) (.slice none 0 0)).setCell (p := ⟨w.heap.size, 1, none⟩) (Nat.le_refl _) (.slice none 0 0))
          have HAr := Lib.hid ((HA.out.below HB1.out).below HR.out.below)
          by_cases hlt : j + 1 < N
          · have hjr : j < r.length := by have := HR2.out; omega
            obtain ⟨x, HDr⟩ : ∃ x, Hid (r.drop j = x :: r.drop (j + 1)) := ⟨r[j], Lib.hid (List.drop_eq_getElem_cons hjr)⟩
            have hXw : at_ ws (j + 1) = mk x := by
              have e1 : at_ ws (j + 1) = at_ (r.map mk) j := by rw [← HR1.out]; simp [at_, List.getD]
              have e2 : at_ (r.map mk) j = at_ ((r.drop j).map mk) 0 := by simp [at_, List.getD]
              rw [e1, e2, HDr.out]
              rfl
            obtain ⟨X, HX⟩ : ∃ z, Hid (mk x = z) := ⟨_, Lib.hid rfl⟩
            have HXd : Hid (X.data.toList = x) := Lib.hid (by rw [← HX.out, mk_data])
            have c1 : wr.cell? ⟨bw, ow + (j + 1), none⟩ = some (.string X) := by
              obtain ⟨b, off, e, hc⟩ := (HAw.out.below HR.out.below).cells (j + 1) (by have := HNw.out; omega)
              cases e
              unfold at_ at hXw
              rw [hXw, HX.out] at hc
              exact hc
            clear hjr hXw
            by_cases harr : x = bArrow
            · have hq2 : (X.toList == [45, 62]) = true := by rw [arrow_eq, HXd.out]; exact decide_eq_true harr
              have hXa : X.toList = [45, 62] := by simpa using hq2
              have HF1 : Hid (foldR acts (some (rd0 acts)) r = foldR acts (some ⟨1, -1, acc, List.replicate n (-1)⟩) (r.drop (j + 1))) := Lib.hid (by
                rw [hq.out.2.2, HDr.out, harr, foldR_go (step_arrow _ _ _ _)])
              have hO := hq.out.1
              have HO1 : Hid (OkR n ⟨1, -1, acc, List.replicate n (-1)⟩) := Lib.hid ⟨by show (1 : Nat) ≤ 2; omega, fun e => (by cases e), hO.2.2.1, hO.2.2.2.1, hO.2.2.2.2⟩
              have hjN : (N : Int) - ((j + 1 : Nat) : Int) = ((N - (j + 1) : Nat) : Int) := by omega
              have hjN2 : (N : Int) - ((j : Int) + 1) = ((N - (j + 1) : Nat) : Int) := by omega
              clear harr hO
              by_cases hev : (N - (j + 1)) % 2 = 0
              · have HN : Hid (rowK steO acts i s.data.toList = none) := Lib.hid (by
                  rw [HP2.out]
                  unfold steO
                  rw [HF1.out]
                  exact fold_odd acts ((r.drop (j + 1)).length / 2) _ _ _ _ (by rw [List.length_drop]; have := HR2.out; omega))
                have hmod : (((N - (j + 1) : Nat) : Int).tmod 2 == 0) = true := by rw [beq_iff_eq, Int.tmod_eq_emod_of_nonneg (by omega)]; omega
                have hmod2 : (((N - (j + 1) : Nat) : Int) % 2 == 0) = true := by rw [beq_iff_eq]; omega
                go_wp2
                exact bodyPost_ret (v := .tuple #[.agg #[.slice none 0 0, .slice none 0 0], .bool false]) (by simp [results, Tryz.results63, go_sem, g0, g1]) rfl ⟨HBe.out, .inl ⟨HN.out, _, _, _, _, _, _, rfl⟩⟩
              · have hmod : (((N - (j + 1) : Nat) : Int).tmod 2 == 0) = false := by rw [beq_eq_false_iff_ne, Int.tmod_eq_emod_of_nonneg (by omega)]; omega
                have hmod2 : (((N - (j + 1) : Nat) : Int) % 2 == 0) = false := by rw [beq_eq_false_iff_ne]; omega
                have hjn : ¬ (j : Int) + 1 = N := by omega
                have hjn2 : (((j : Int) + 1) == N) = false := by rw [beq_eq_false_iff_ne]; exact hjn
                obtain ⟨w5, hw5⟩ : ∃ z, z = wr := ⟨_, rfl⟩
                subst hw5
                clear g0 g1 b0 b1 f0 f1 hRr k0 k1
                go_wp2
                have hmo : (((N - (j + 1) : Nat) : Int)).tmod 2 = 1 := by rw [Int.tmod_eq_emod_of_nonneg (by omega)]; omega
                try simp only [hmo]
                clear hmo hmod hmod2 hjN hjN2
                go_loopw [10, 13, 14, 15, 16] (fun p la _ _ _ wr => ∃ (m : Nat) (lst : Int) (nx : List Int), p = .int .i64 ((j + 2 + 2 * m : Nat) : Int) ∧ j + 2 + 2 * m ≤ N ∧ la = .int .i64 lst ∧ -1 ≤ lst ∧ lst ≤ 9 ∧ Hid (RxAt w1 wr XB (.slice ha L hc) (.slice ga n gc) acc nx) ∧ Hid (OkR n ⟨1, lst, acc, nx⟩ ∧ foldR acts (some (rd0 acts)) r = foldR acts (some ⟨1, lst, acc, nx⟩) (r.drop (j + 1 + 2 * m)))) (fun p _ _ _ _ _ => N - (intOf p).toNat)
                case atStart => exact ⟨0, -1, _, by go_num, by omega, rfl, by omega, by omega, HR, Lib.hid ⟨HO1.out, HF1.out⟩⟩
                case round =>
                  obtain ⟨m, lst, nx, rfl, hm1, rfl, hl1, hl2, HR5, hq5⟩ := hrel
                  have k0 := HR5.out.box.cell 0
                  have k1 := HR5.out.box.cell 1
                  have hres := HRes1.out.below HR5.out.below HRes1.out.lt
                  have HRes5 := Lib.hid hres
                  have b0 := hres.cell 0
                  have b1 := hres.cell 1
                  have f0 := hres.frozen 0
                  have f1 := hres.frozen 1
                  have hzr5 := HR5.out.below.size
                  have hXr5 := HR5.out.box.lt
                  have hRr5 := hres.lt
                  simp only [List.getElem?_toArray, List.getElem?_cons_succ, List.getElem?_cons_zero] at k0 k1 b0 b1
                  have g0 := (hres.set 0 (.slice none 0 0)).cell 0
                  have g1 := ((hres.set 0 (.slice none 0 0)).set 1 (.slice none 0 0)).cell 1
                  simp only [List.setIfInBounds_toArray, List.set_cons_zero, List.set_cons_succ, List.getElem?_toArray, List.getElem?_cons_succ, List.getElem?_cons_zero] at g0 g1
                  clear hres
                  have HBe5 := Lib.hid (((HB1.out.trans (HR5.out.below.mono (Nat.le_of_lt hz01))).setCell (p := ⟨w.heap.size, 0, none⟩) (Nat.le_refl _) (.slice none 0 0)).setCell (p := ⟨w.heap.size, 1, none⟩) (Nat.le_refl _) (.slice none 0 0))
                  by_cases hlt5 : j + 2 + 2 * m < N
                  · have hlt6 : j + 2 + 2 * m + 1 < N := by omega
                    have h2x : j + 1 + 2 * m + 1 < r.length := by have := HR2.out; omega
                    obtain ⟨a1, n1, HD5⟩ : ∃ a1 n1, Hid (r.drop (j + 1 + 2 * m) = a1 :: n1 :: r.drop (j + 1 + 2 * (m + 1))) := ⟨r[j + 1 + 2 * m], r[j + 1 + 2 * m + 1], Lib.hid (by
                      rw [List.drop_eq_getElem_cons (by omega), List.drop_eq_getElem_cons (by omega)]; rfl)⟩
                    have HX1 : Hid (at_ ws (j + 2 + 2 * m) = mk a1 ∧ at_ ws (j + 2 + 2 * m + 1) = mk n1) := Lib.hid (by
                      have e1 : ∀ q, at_ ws (q + 1) = at_ (r.map mk) q := fun q => by rw [← HR1.out]; simp [at_, List.getD]
                      have e2 : ∀ q, at_ (r.map mk) (j + 1 + 2 * m + q) = at_ ((r.drop (j + 1 + 2 * m)).map mk) q := fun q => by simp [at_, List.getD]
                      have e3 := e2 0
                      have e4 := e2 1
                      rw [HD5.out] at e3 e4
                      rw [Nat.add_zero] at e3
                      refine ⟨?_, ?_⟩
                      · rw [show j + 2 + 2 * m = (j + 1 + 2 * m) + 1 by omega, e1, e3]; rfl
                      · rw [show j + 2 + 2 * m + 1 = (j + 1 + 2 * m + 1) + 1 by omega, e1, e4]; rfl)
                    obtain ⟨X5, HX5⟩ : ∃ z, Hid (mk a1 = z) := ⟨_, Lib.hid rfl⟩
                    obtain ⟨Y, HY⟩ : ∃ z, Hid (mk n1 = z) := ⟨_, Lib.hid rfl⟩
                    have HYd : Hid (Y.data.toList = n1) := Lib.hid (by rw [← HY.out, mk_data])
                    have hAr := HAw.out.below HR5.out.below
                    have d1 : wr.cell? ⟨bw, ow + (j + 2 + 2 * m), none⟩ = some (.string X5) := by
                      obtain ⟨b, off, e, hc⟩ := hAr.cells (j + 2 + 2 * m) (by have := HNw.out; omega)
                      cases e
                      have h3 := HX1.out.1
                      unfold at_ at h3
                      rw [h3, HX5.out] at hc
                      exact hc
                    have d2 : wr.cell? ⟨bw, ow + (j + 2 + 2 * m + 1), none⟩ = some (.string Y) := by
                      obtain ⟨b, off, e, hc⟩ := hAr.cells (j + 2 + 2 * m + 1) (by have := HNw.out; omega)
                      cases e
                      have h3 := HX1.out.2
                      unfold at_ at h3
                      rw [h3, HY.out] at hc
                      exact hc
                    have HAc := Lib.hid ((HA.out.below HB1.out).below HR5.out.below)
                    have HF := Lib.hid (Index_any a n c acts X5 wr HAc.out.len HAc.out.big HAc.out.cells)
                    have hYs : Y.size ≤ 1000000 := by
                      rw [← HY.out, ← HX1.out.2]
                      exact HSz.out _ (at_in _ _ (by have := HNw.out; omega))
                    have HPn := RNumber_any Y (by omega) wr
                    rw [HYd.out] at HPn
                    have hwr1 : IntKind.i64.wrap (((j + 2 + 2 * m : Nat) : Int) + 1) = ((j + 2 + 2 * m : Nat) : Int) + 1 := IntWalk.i64_in _ (by omega)
                    clear hAr h2x
                    obtain ⟨Z, HZ⟩ : ∃ z, Hid (Lib.idxOfS acts X5 = z) := ⟨_, Lib.hid rfl⟩
                    rw [HZ.out] at HF
                    by_cases hZ : Z ≤ lst
                    · obtain ⟨t, okv, hnt⟩ : ∃ (t : Int) (okv : Bool), numT n1 = .tuple #[.int .i64 t, .bool okv] := by
                        cases hnv : numV n1 with
                        | none => exact ⟨0, false, numT_none hnv⟩
                        | some t => exact ⟨t, true, numT_some hnv⟩
                      rw [hnt] at HPn
                      have HPn := Lib.hid HPn
                      have HN : Hid (rowK steO acts i s.data.toList = none) := Lib.hid (by
                        rw [HP2.out]
                        unfold steO
                        rw [hq5.out.2, HD5.out, foldR_halt (step_noact _ _ (by rw [HX5.out, HZ.out]; exact hZ))]
                        rfl)
                      clear hnt
                      go_wp2_with fail
                      refine HF.out.mono ?_
                      rintro e w' ⟨rfl, rfl⟩
                      go_wp2_with fail
                      refine HPn.out.mono ?_
                      rintro e w2 ⟨rfl, rfl⟩
                      go_wp2
                      exact bodyPost_ret (v := .tuple #[.agg #[.slice none 0 0, .slice none 0 0], .bool false]) (by simp [results, Tryz.results63, go_sem, g0, g1]) rfl ⟨HBe5.out, .inl ⟨HN.out, _, _, _, _, _, _, rfl⟩⟩
                    · have hstA := step_act (acts := acts) (x := a1) hl1 acc nx (by rw [HX5.out, HZ.out]; exact hZ)
                      rw [HX5.out, HZ.out] at hstA
                      have HStA := Lib.hid hstA
                      have hOA : OkR acts.length ⟨1, lst, acc, nx⟩ := by rw [HNl.out]; exact hq5.out.1
                      have hOA2 := (OkR.step HACT.out hOA hstA).1
                      have HOA2 := Lib.hid hOA2
                      have hZ2 := hOA2.2.1 rfl
                      rw [HNl.out] at hZ2
                      simp only at hZ2
                      cases hnv : numV n1 with
                      | none =>
                        rw [numT_none hnv] at HPn
                        have HPn := Lib.hid HPn
                        have HN : Hid (rowK steO acts i s.data.toList = none) := Lib.hid (by
                          rw [HP2.out]
                          unfold steO
                          rw [hq5.out.2, HD5.out, foldR_go HStA.out, foldR_halt (step_nonum _ _ _ hnv)]
                          rfl)
                        clear hnv hstA hOA hOA2
                        go_wp2_with fail
                        refine HF.out.mono ?_
                        rintro e w' ⟨rfl, rfl⟩
                        go_wp2_with fail
                        refine HPn.out.mono ?_
                        rintro e w2 ⟨rfl, rfl⟩
                        go_wp2
                        exact bodyPost_ret (v := .tuple #[.agg #[.slice none 0 0, .slice none 0 0], .bool false]) (by simp [results, Tryz.results63, go_sem, g0, g1]) rfl ⟨HBe5.out, .inl ⟨HN.out, _, _, _, _, _, _, rfl⟩⟩
                      | some t =>
                        rw [numT_some hnv] at HPn
                        have HPn := Lib.hid HPn
                        obtain ⟨u, rfl⟩ := Int.eq_ofNat_of_zero_le hZ2.1
                        have hun : u < n := by omega
                        have hstN := step_num (acts := acts) (x := n1) (u : Int) acc nx hnv
                        rw [Int.toNat_natCast] at hstN
                        have hOB := (OkR.step HACT.out HOA2.out hstN).1
                        rw [HNl.out] at hOB
                        have HG : Hid (OkR n ⟨1, (u : Int), acc, nx.set u t⟩ ∧ foldR acts (some (rd0 acts)) r = foldR acts (some ⟨1, (u : Int), acc, nx.set u t⟩) (r.drop (j + 1 + 2 * (m + 1)))) := Lib.hid
                          ⟨hOB, by rw [hq5.out.2, HD5.out, foldR_go HStA.out, foldR_go hstN]⟩
                        obtain ⟨g, rfl, e1, e2, e3⟩ := HR5.out.put hq5.out.1.2.2.1 u hun t
                        have HNx := Lib.hid e3
                        have hu0 : (0 : Int) ≤ (u : Int) := by omega
                        have hu1 : (u : Int) < (n : Int) := by omega
                        clear hnv hstA hOA hOA2 hstN hOB e3 hZ2 b0 b1 f0 f1 g0 g1
                        go_wp2_with fail
                        refine HF.out.mono ?_
                        rintro e w' ⟨rfl, rfl⟩
                        go_wp2_with fail
                        refine HPn.out.mono ?_
                        rintro e w2 ⟨rfl, rfl⟩
                        go_wp2
                        go_roundw
                        case rel => exact ⟨m + 1, (u : Int), _, by go_num, by omega, rfl, by omega, by omega, HNx, HG⟩
                        case measure => simp [intOf]; omega
                  · have HT : Hid (rowK steO acts i s.data.toList = some (acc, nx)) := Lib.hid (by
                      rw [HP2.out]
                      unfold steO
                      rw [hq5.out.2, List.drop_of_length_le (by have := HR2.out; omega)]
                      rfl)
                    have HF1' : Hid (Fits acc) := Lib.hid (fits_small (fun z hz => by have := hq5.out.1.2.2.2.1 z hz; omega) (by have := HL.out; omega))
                    have HF2' : Hid (Fits nx) := Lib.hid (fits_small hq5.out.1.2.2.2.2 (by rw [hq5.out.1.2.2.1]; show n ≤ _; omega))
                    have HBf := Lib.hid (((HB1.out.trans (HR5.out.below.mono (Nat.le_of_lt hz01))).setCell (p := ⟨w.heap.size, 0, none⟩) (Nat.le_refl _) (.slice ha L hc)).setCell (p := ⟨w.heap.size, 1, none⟩) (Nat.le_refl _) (.slice ga n gc))
                    have hgr := (grown_self wr ⟨w.heap.size, 0, none⟩ (.slice ha L hc)).trans (grown_self (wr.setCell ⟨w.heap.size, 0, none⟩ (.slice ha L hc)) ⟨w.heap.size, 1, none⟩ (.slice ga n gc))
                    have HPa : Hid (NumO ((wr.setCell ⟨w.heap.size, 0, none⟩ (.slice ha L hc)).setCell ⟨w.heap.size, 1, none⟩ (.slice ga n gc)) w.heap.size (.slice ha L hc) acc) := Lib.hid
                      (own_low (HR5.out.acc.kept hgr (.inr (own_whole HR5.out.acc HRes5.out (by decide)).symm)) (Nat.le_of_lt hz01))
                    have HPb : Hid (NumO ((wr.setCell ⟨w.heap.size, 0, none⟩ (.slice ha L hc)).setCell ⟨w.heap.size, 1, none⟩ (.slice ga n gc)) w.heap.size (.slice ga n gc) nx) := Lib.hid
                      (own_low (HR5.out.nx.kept hgr (.inr (own_whole HR5.out.nx HRes5.out (by decide)).symm)) (Nat.le_of_lt hz01))
                    have g2 := (HRes5.out.set 0 (.slice ha L hc)).cell 0
                    have g3 := ((HRes5.out.set 0 (.slice ha L hc)).set 1 (.slice ga n gc)).cell 1
                    simp only [List.setIfInBounds_toArray, List.set_cons_zero, List.set_cons_succ, List.getElem?_toArray, List.getElem?_cons_succ, List.getElem?_cons_zero] at g2 g3
                    clear hgr g0 g1
                    go_wp2
                    exact bodyPost_ret (v := .tuple #[.agg #[.slice ha L hc, .slice ga n gc], .bool true]) (by simp [results, Tryz.results63, go_sem, g2, g3]) rfl ⟨HBf.out, .inr ⟨(acc, nx), _, _, HT.out, rfl, HPa.out, HPb.out, HF1'.out, HF2'.out⟩⟩
            · have hq2 : (X.toList == [45, 62]) = false := by rw [arrow_eq, HXd.out]; exact decide_eq_false harr
              have hne : ¬ X.toList = [45, 62] := fun e => by rw [e] at hq2; simp at hq2
              have HPr := RParse_any X HACT.out HAr.out
              cases hpo : parseO acts x with
              | none =>
                have HN : Hid (rowK steO acts i s.data.toList = none) := Lib.hid (by
                  rw [HP2.out]
                  unfold steO
                  rw [hq.out.2.2, HDr.out, foldR_halt (step_noset _ _ _ harr hpo)]
                  rfl)
                unfold refParse at HPr
                rw [HXd.out, hpo] at HPr
                have HPr := Lib.hid HPr
                clear harr hpo
                go_wp2_with fail
                refine HPr.out.mono ?_
                rintro e w' ⟨rfl, rfl⟩
                go_wp2
                exact bodyPost_ret (v := .tuple #[.agg #[.slice none 0 0, .slice none 0 0], .bool false]) (by simp [results, Tryz.results63, go_sem, g0, g1]) rfl ⟨HBe.out, .inl ⟨HN.out, _, _, _, _, _, _, rfl⟩⟩
              | some y =>
                have HST := Lib.hid (step_set (-1) acc (List.replicate n (-1)) harr hpo)
                have HG : Hid (OkR n ⟨0, -1, acc ++ [(y : Int)], List.replicate n (-1)⟩ ∧ (acc ++ [(y : Int)]).length ≤ j + 1 ∧ foldR acts (some (rd0 acts)) r = foldR acts (some ⟨0, -1, acc ++ [(y : Int)], List.replicate n (-1)⟩) (r.drop (j + 1))) := Lib.hid ⟨by
                    have h9 : OkR acts.length ⟨0, -1, acc, List.replicate n (-1)⟩ := by rw [HNl.out]; exact hq.out.1
                    have h10 := (OkR.step HACT.out h9 HST.out).1
                    rwa [HNl.out] at h10, by rw [List.length_append, HL.out]; simp; omega, by rw [hq.out.2.2, HDr.out, foldR_go HST.out]⟩
                unfold refParse at HPr
                rw [HXd.out, hpo] at HPr
                have HPr := Lib.hid HPr
                have hal : Below wr.heap.size wr (wr.alloc (.cells #[.int .i64 y] 3)) := (Below.refl _ wr).alloc (Nat.le_refl _) _
                have HRa := Lib.hid (HR.out.up hal)
                have HOw : Hid ((wr.alloc (.cells #[.int .i64 y] 3)).ownsRow w1.heap.size 3 1 (.slice ha L hc) L (acc.map (Value.int .i64))) := Lib.hid (by
                  have := HRa.out.acc
                  unfold NumO at this
                  rwa [HL.out] at this)
                clear harr hpo hal g0 g1 b0 b1 f0 f1
                go_wp2_with fail
                refine HPr.out.mono ?_
                rintro e w' ⟨rfl, rfl⟩
                go_wp2_with (at_builtin; (refine wpList_append_sz rfl (.tmp 61) (.tmp 63) 28 rfl w1.heap.size 3 i1 (.int .i64 0) 1 8 Tryz.underlying28 hi1 hz10 hz11 hz12 rfl (by decide) (.slice ha L hc) rfl L _ HOw.out (some ⟨wr.heap.size, 0, none⟩) 1 1 rfl [.int .i64 y] (fun h => by cases h) rfl (one_src _ _ _) (by simp [Value.oneCell']) (by unfold maxLen; omega) (by omega) (by simp; omega) ?_); intro v2 wB hB hgB hatB; refine Hid.out ?_)
                have hN2' : NumO wB w1.heap.size v2 (acc ++ [(y : Int)]) := by
                  unfold NumO
                  rw [List.length_append, HL.out, List.map_append]
                  exact hB
                obtain ⟨xa, xc, rfl⟩ := own_slice' hB
                have kw := HRa.out.box.grown hgB (own_whole HRa.out.acc HRa.out.box (by decide))
                have m1 := kw.cell 0
                have m2 := kw.frozen 0
                have m3 := kw.lt
                simp only [List.getElem?_toArray, List.getElem?_cons_zero] at m1
                have HNx := Lib.hid (HRa.out.push hgB hN2' hatB)
                clear hB hgB hatB hN2' kw
                refine Lib.hid ?_
                go_wp2
                go_roundw
                case rel => exact ⟨j + 1, _, _, by go_num, by omega, HNx, HG⟩
                case measure => simp [intOf]; omega
          · have HN : Hid (rowK steO acts i s.data.toList = none) := Lib.hid (by
              rw [HP2.out]
              unfold steO
              rw [hq.out.2.2, List.drop_of_length_le (by have := HR2.out; omega)]
              rfl)
            have hjN : j + 1 = N := by omega
            subst hjN
            go_wp2
            exact bodyPost_ret (v := .tuple #[.agg #[.slice none 0 0, .slice none 0 0], .bool false]) (by simp [results, Tryz.results63, go_sem, g0, g1]) rfl ⟨HBe.out, .inl ⟨HN.out, _, _, _, _, _, _, rfl⟩⟩
  · have hq : (x0.toList == (D ++ (⟨#[58]⟩ : ByteArray)).toList) = false := by rw [bytes_eq]; exact decide_eq_false hx
    have HP2 : Hid (rowK steO acts i s.data.toList = none) := Lib.hid (by rw [HP.out, if_neg hx])
    have HBe := Lib.hid ((((HB1.out.setCell (p := ⟨w.heap.size, 0, none⟩) (Nat.le_refl _) (.slice none 0 0)).setCell (p := ⟨w.heap.size, 1, none⟩) (Nat.le_refl _) (.slice none 0 0))).drew)
    clear hx
    go_wp2
    go_region_held3 (fun w' => w'.cell? ⟨bw, ow, none⟩ = some (.string x0))
      ((first | assumption | go_keep))
      (first | (go_at_call 59; refine (HI.out _).mono ?_; rintro e wI ⟨rfl, rfl⟩))
    go_wp2
    exact bodyPost_ret (v := .tuple #[.agg #[.slice none 0 0, .slice none 0 0], .bool false]) (by simp [results, Tryz.results63, go_sem, g0, g1]) rfl ⟨HBe.out, .inl ⟨HP2.out, _, _, _, _, _, _, rfl⟩⟩
end Go.Proofs.YtpmbijlldoiplaaGreatDoor
/- A specification that a call puts together in a variable of its own, state by state. -/
namespace Go.Proofs.YtpmbijlldoiplaaGreatDoor
open Go.RowKit Pl

/-- the variable at block w2.heap.size holds va and the states ss so far; what lay below stands -/
structure SpcAcc (w2 : World) (va vs : Value) (ss : List Ste) (wr : World) : Prop where
  out : Whole wr w2.heap.size 40 #[va, vs]
  rows : StesOwn wr w2.heap.size vs ss
  mid : Below w2.heap.size w2 wr
theorem SpcAcc.drew {w2 wr : World} {va vs : Value} {ss : List Ste} (h : SpcAcc w2 va vs ss wr) : SpcAcc w2 va vs ss wr.drew := ⟨h.out, h.rows, h.mid.drew⟩
theorem SpcAcc.below {w2 wr wA : World} {va vs : Value} {ss : List Ste} (h : SpcAcc w2 va vs ss wr) (hb : Below wr.heap.size wr wA) : SpcAcc w2 va vs ss wA :=
  ⟨h.out.below hb h.out.lt, h.rows.below hb, h.mid.trans (hb.mono h.mid.size)⟩
theorem SpcAcc.start (w2 : World) (va : Value) : SpcAcc w2 va (.slice none 0 0) [] (w2.alloc (.cells #[va, .slice none 0 0] 40)) :=
  ⟨Whole.new _ _ _, StesOwn.none _ _, (Below.refl _ w2).alloc (Nat.le_refl _) _⟩
theorem SpcAcc.mono_mid {w2 wr : World} {va vs : Value} {ss : List Ste} (h : SpcAcc w2 va vs ss wr) {B C : Nat} (h1 : B ≤ w2.heap.size) (h2 : C < B) : Below C w2 wr := h.mid.mono (by omega)
/-- what is known of the variable behind the append -/
theorem SpcAcc.grown {w2 wA wB : World} {va vs : Value} {ss : List Ste} (h : SpcAcc w2 va vs ss wA) (hg : wA.grownBy wB vs.ownBlock) : Whole wB w2.heap.size 40 #[va, vs] := by
  obtain ⟨rows, r1, r2, r3⟩ := h.rows
  exact h.out.grown hg (own_whole r2 h.out (by decide))
/-- one state more -/
theorem SpcAcc.next {w2 wA wB : World} {va vs p q v2 : Value} {ss : List Ste} {t : Ste} (h : SpcAcc w2 va vs ss wA) (hP : NumO wA w2.heap.size p t.1) (hQ : NumO wA w2.heap.size q t.2) (hg : wA.grownBy wB vs.ownBlock)
    (hB : ∀ rows, wA.ownsRow w2.heap.size 101 2 vs ss.length (rcells rows) → rows.length = ss.length → wB.ownsRow w2.heap.size 101 2 v2 (ss.length + 1) (rcells rows ++ [p, q])) :
    SpcAcc w2 va v2 (ss ++ [t]) (wB.setCell ⟨w2.heap.size, 1, none⟩ v2) := by
  have hw := h.grown hg
  obtain ⟨rows, r1, r2, r3⟩ := h.rows
  have hs := StesOwn.snoc (v' := v2) (t := t) ⟨rows, r1, r2, r3⟩ hP hQ hg hB
  refine ⟨by simpa using hw.set 1 v2, ?_, (h.mid.grown hg h.mid.size (own_ge r2)).setCell (by simp) _⟩
  exact hs.kept (grown_self wB ⟨w2.heap.size, 1, none⟩ v2) (.inr (own_whole hs.choose_spec.2.1 hw (by decide)).symm) (fun r l hr => .inr (own_whole hr hw (by decide)).symm)
end Go.Proofs.YtpmbijlldoiplaaGreatDoor
/- The reference's Parse of specifications. -/
namespace Go.Proofs.YtpmbijlldoiplaaGreatDoor
open Go.RowKit Pl

/-- what is read, from the lines behind the first one on -/
def linesSp (o : Option (List ByteArray)) (ls : List (List UInt8)) : Spc × Int :=
  match o with
  | none => (noSpc, 11)
  | some acts => match rowsK steO acts 0 ls with
    | none => (noSpc, 11)
    | some ss => if spcB ⟨acts, ss⟩ = true then (⟨acts, ss⟩, 0) else (noSpc, 30)
theorem parseSp_lines {s : ByteArray} (h : ¬ 60000 < s.data.toList.length) :
    ∃ ls : List (List UInt8), (spB 10 (mk (cut1 s.data.toList))).drop 1 = ls.map mk ∧ (spB 10 (mk (cut1 s.data.toList))).length = ls.length + 1 ∧
    parseSp s.data.toList = linesSp (headK bSpec (at_ (spB 10 (mk (cut1 s.data.toList))) 0).data.toList) ls := by
  obtain ⟨ls, h1, h2, h3⟩ := textK_lines bSpec steO h
  refine ⟨ls, h1, h2, ?_⟩
  unfold linesSp
  cases e : headK bSpec (at_ (spB 10 (mk (cut1 s.data.toList))) 0).data.toList with
  | none => rw [e] at h3; exact parseSp_bad h3 (by decide)
  | some acts =>
    rw [e] at h3
    simp only at h3 ⊢
    cases e2 : rowsK steO acts 0 ls with
    | none => rw [e2] at h3; exact parseSp_bad h3 (by decide)
    | some ss =>
      rw [e2] at h3
      simp only at h3 ⊢
      by_cases hc : spcB ⟨acts, ss⟩ = true
      · rw [if_pos hc]; exact parseSp_yes h3 hc
      · rw [if_neg hc]; exact parseSp_no h3 (by simpa using hc)

set_option maxRecDepth 100000 in
set_option maxHeartbeats 8000000 in
theorem RSpParse_any (s : ByteArray) (hs : s.size ≤ 9223372036854775807) (w : World) :
    Calls Tryz.prog 20 #[.string s] w fun e w' => ∃ a n c b k d, e = .returned (.tuple #[.agg #[.slice a n c, .slice b k d], .int .i64 (parseSp s.data.toList).2]) ∧ SpecArg w' a n c b k d (parseSp s.data.toList).1 ∧ Below w.heap.size w w' := by
  obtain ⟨i2, hi2, hz20, hz21, hz22⟩ := info_parts infoState
  have hb1 := (Below.refl w.heap.size w).alloc (Nat.le_refl _) (.cells #[.slice none 0 0, .slice none 0 0] 40)
  by_cases hl : 60000 < s.size
  · have HP := Lib.hid (parseSp_bad (textK_large (kw := bSpec) (rp := steO) (l := s.data.toList) (by rw [← Lib.size_eq]; exact hl)) (by decide))
    have hl' : (60000 : Int) < s.size := by omega
    go_enter Tryz.func20, Tryz.ntmps20
    go_wp2
    exact bodyPost_ret (v := .tuple #[.agg #[.slice none 0 0, .slice none 0 0], .int .i64 2]) (by simp [results, Tryz.results20, go_sem]) rfl ⟨none, 0, 0, none, 0, 0, by rw [HP.out], by rw [HP.out]; exact spc_nil _, hb1⟩
  · have hl' : (s.size : Int) ≤ 60000 := by omega
    obtain ⟨ls, hl1, hl2, hl3⟩ := parseSp_lines (s := s) (by rw [← Lib.size_eq]; exact hl)
    have hRL := RLines_any s (by omega) (w.alloc (.cells #[.slice none 0 0, .slice none 0 0] 40))
    have hu0 : (mk (cut1 s.data.toList)).size ≤ 60000 := by
      rw [mk_size']
      have := cut1_le s.data.toList
      rw [← Lib.size_eq] at this
      omega
    obtain ⟨u, HU⟩ : ∃ u, Hid (mk (cut1 s.data.toList) = u) := ⟨_, Lib.hid rfl⟩
    rw [HU.out] at hRL hl1 hl2 hl3 hu0
    have hN2 := spB_count 10 u
    have hszs : ∀ x ∈ spB 10 u, x.size ≤ 1000000 := fun x hx => Nat.le_trans (spB_size hx) (by omega)
    obtain ⟨ws, HWS⟩ : ∃ ws, Hid (spB 10 u = ws) := ⟨_, Lib.hid rfl⟩
    rw [HWS.out] at hl1 hl2 hl3 hRL hN2 hszs
    have HSz := Lib.hid hszs
    have HL1 := Lib.hid hl1
    have HL2 := Lib.hid hl2
    have HL3 := Lib.hid hl3
    obtain ⟨N, HN⟩ : ∃ N, Hid (ws.length = N) := ⟨_, Lib.hid rfl⟩
    rw [HN.out] at hRL hN2 hl2
    have HL2' := Lib.hid hl2
    have HRL := Lib.hid hRL
    clear hl1 hl2 hl3 hszs hRL
    have hN1 : 0 < N := by have := HL2'.out; omega
    obtain ⟨x0, HX0⟩ : ∃ x, Hid (at_ ws 0 = x) := ⟨_, Lib.hid rfl⟩
    have hx0 : x0.size ≤ 1000000 := by rw [← HX0.out]; exact HSz.out _ (at_in _ _ (by have := HN.out; omega))
    have HB1 := Lib.hid hb1
    have hN0 : (0 : Int) < N := by omega
    clear hb1
    go_enter Tryz.func20, Tryz.ntmps20
    go_wp2_with fail
    refine HRL.out.mono ?_
    rintro e w1 ⟨aw, cw, rfl, hAw, _, hbL⟩
    have hres := (Whole.new w 40 #[.slice none 0 0, .slice none 0 0]).below hbL (by simp)
    have hb2 := HB1.out.trans (hbL.mono (by simp))
    have hz1 : w.heap.size < w1.heap.size := hres.lt
    obtain ⟨bw, ow, rfl, c0⟩ := hAw.cells 0 (by have := HN.out; omega)
    change w1.cell? _ = some (.string (at_ ws 0)) at c0
    rw [HX0.out] at c0
    simp only [Nat.add_zero] at c0
    have HAw := Lib.hid hAw
    have HB2 := Lib.hid hb2
    have HRes := Lib.hid hres
    have HPA := Lib.hid (RActionsK_any ⟨#[115, 112, 101, 99]⟩ x0 hx0 w1)
    clear hAw hb2 hres hbL
    go_wp2_with fail
    refine HPA.out.mono ?_
    rintro e w2 ⟨hb2, hcase⟩
    have HB12 := Lib.hid hb2
    have hz2 := hb2.size
    have hres2 := HRes.out.below hb2 HRes.out.lt
    have HR2 := Lib.hid hres2
    have r0 := hres2.cell 0
    have r1 := hres2.cell 1
    have f0 := hres2.frozen 0
    have f1 := hres2.frozen 1
    have r4 := hres2.lt
    simp only [List.getElem?_toArray, List.getElem?_cons_succ, List.getElem?_cons_zero] at r0 r1
    have hBw := HB2.out.trans (hb2.mono HB2.out.size)
    have HBw := Lib.hid hBw
    clear hb2 hres2 hBw
    rcases hcase with ⟨hno, an, nn, cn, rfl⟩ | ⟨acts, a, c, hyes, rfl, hAc, hbl⟩
    · have HP : Hid (parseSp s.data.toList = (noSpc, 11)) := Lib.hid (by rw [HL3.out, HX0.out, show bSpec = (⟨#[115, 112, 101, 99]⟩ : ByteArray).data.toList from rfl, hno]; rfl)
      have g0 := (HR2.out.set 0 (.slice none 0 0)).cell 0
      have g1 := ((HR2.out.set 0 (.slice none 0 0)).set 1 (.slice none 0 0)).cell 1
      simp only [List.setIfInBounds_toArray, List.set_cons_zero, List.set_cons_succ, List.getElem?_toArray, List.getElem?_cons_succ, List.getElem?_cons_zero] at g0 g1
      have HBe := Lib.hid ((HBw.out.setCell (p := ⟨w.heap.size, 0, none⟩) (Nat.le_refl _) (.slice none 0 0)).setCell (p := ⟨w.heap.size, 1, none⟩) (Nat.le_refl _) (.slice none 0 0))
      clear hno
      go_wp2
      exact bodyPost_ret (v := .tuple #[.agg #[.slice none 0 0, .slice none 0 0], .int .i64 11]) (by simp [results, Tryz.results20, go_sem, g0, g1]) rfl ⟨none, 0, 0, none, 0, 0, by rw [HP.out], by rw [HP.out]; exact spc_nil _, HBe.out⟩
    · have hact : actsB acts = true := by
        unfold headK at hyes
        split at hyes
        · cases hyes
        · split at hyes
          · rename_i h3
            cases hyes
            exact h3.2
          · cases hyes
      have hac8 := ((actsB_iff acts).1 hact).1
      have HACT := Lib.hid hact
      have HAc := Lib.hid hAc
      have HBl := Lib.hid hbl
      obtain ⟨a', hcut, hcutA, _⟩ := cut_from HAw.out 1 hN1
      simp only [Int.natCast_one] at hcut
      have HCut := Lib.hid (hcutA.below HB12.out)
      have HP3 : Hid (parseSp s.data.toList = match rowsK steO acts 0 ls with
        | none => (noSpc, 11)
        | some ss => if spcB ⟨acts, ss⟩ = true then (⟨acts, ss⟩, 0) else (noSpc, 30)) := Lib.hid (by rw [HL3.out, HX0.out, show bSpec = (⟨#[115, 112, 101, 99]⟩ : ByteArray).data.toList from rfl, hyes]; rfl)
      have HSt := Lib.hid (SpcAcc.start w2 (.slice a acts.length c))
      have hNw : N - 1 = ls.length := by have := HL2'.out; omega
      have HNw := Lib.hid hNw
      clear hyes hact hAc hbl hcutA hNw
      go_wp2
      go_loopw [8, 9, 10, 11, 33] (fun _ _ _ _ i wr => ∃ (x : Nat) (ss : List Ste) (vs : Value), i = .int .i64 x ∧ x ≤ N - 1 ∧ SpcAcc w2 (.slice a acts.length c) vs ss wr ∧ Hid (ss.length = x ∧ (∀ k, k < x → rowK steO acts k (ls.getD k []) = some (teAt ss k)) ∧ ∀ k, k < x → Fits (teAt ss k).1 ∧ Fits (teAt ss k).2)) (fun _ _ _ _ i _ => N - (intOf i).toNat)
      case atStart => exact ⟨0, [], _, rfl, Nat.zero_le _, HSt.out, Lib.hid ⟨rfl, fun k hk => by omega, fun k hk => by omega⟩⟩
      case round =>
        obtain ⟨x, ss, vs, rfl, hx, hacc, hss⟩ := hrel
        have HA := Lib.hid hacc
        obtain ⟨rows, R1, R2, R3⟩ := hacc.rows
        obtain ⟨bb, cc, rfl⟩ := own_slice R2
        have HR2o := Lib.hid R2
        have HR1 := Lib.hid R1
        have hzr := hacc.mid.size
        have o1 := hacc.out.cell 0
        have o2 := hacc.out.cell 1
        have of := hacc.out.frozen 1
        simp only [List.getElem?_toArray, List.getElem?_cons_succ, List.getElem?_cons_zero] at o1 o2
        have hresr := HR2.out.below hacc.mid HR2.out.lt
        have HResr := Lib.hid hresr
        have HBr := Lib.hid (HBw.out.trans (hacc.mono_mid hz2 hz1))
        clear hacc R1 R2 R3 hresr
        by_cases hlt : x < N - 1
        · obtain ⟨bl, ol, rfl, c1⟩ := (HCut.out.below HA.out.mid).cells x (by have := HCut.out.len; omega)
          obtain ⟨L, HLn⟩ : ∃ L, Hid (at_ (ws.drop 1) x = L) := ⟨_, Lib.hid rfl⟩
          change wr.cell? _ = some (.string (at_ (ws.drop 1) x)) at c1
          rw [HLn.out] at c1
          have HLd : Hid (L.data.toList = ls.getD x []) := Lib.hid (by
            rw [← HLn.out, HL1.out]
            unfold at_
            have hx1 : x < ls.length := by have := HNw.out; omega
            rw [List.getD_eq_getElem?_getD, List.getElem?_map, List.getElem?_eq_getElem hx1, List.getD_eq_getElem?_getD, List.getElem?_eq_getElem hx1]
            simp [mk])
          have hLs : L.size ≤ 1000000 := by
            rw [← HLn.out]
            have : at_ (ws.drop 1) x = at_ ws (1 + x) := by simp [at_, List.getD, Nat.add_comm]
            rw [this]
            exact HSz.out _ (at_in _ _ (by have := HN.out; omega))
          have HPS := RRead_any x L (by omega) hLs (HAc.out.below HA.out.mid) HACT.out
          rw [HLd.out] at HPS
          have HPS := Lib.hid HPS
          go_wp2_with fail
          refine HPS.out.mono ?_
          rintro e wA ⟨hbA, hcase⟩
          have HbA := Lib.hid hbA
          rcases hcase with ⟨hno, pa, pn, pc, qa, qn, qc, rfl⟩ | ⟨es, vp, vq, hyes, rfl, hEp, hEq, hel⟩
          · have HP : Hid (parseSp s.data.toList = (noSpc, 11)) := Lib.hid (by
              rw [HP3.out, rowsK_bad ls 0 x (by have := HNw.out; omega) (by rw [Nat.zero_add]; exact hno)])
            have hbA' := hbA.alloc hbA.size (.cells #[.slice pa pn pc, .slice qa qn qc] 101)
            have hrA := HResr.out.below hbA' HResr.out.lt
            have hbT := HBr.out.trans (hbA'.mono HBr.out.size)
            clear hbA hbA' hno
            have q0 := hrA.cell 0
            have q1 := hrA.cell 1
            have q2 := hrA.frozen 0
            have q3 := hrA.frozen 1
            have q4 := hrA.lt
            have g0 := (hrA.set 0 (.slice none 0 0)).cell 0
            have g1 := ((hrA.set 0 (.slice none 0 0)).set 1 (.slice none 0 0)).cell 1
            simp only [List.setIfInBounds_toArray, List.set_cons_zero, List.set_cons_succ, List.getElem?_toArray, List.getElem?_cons_succ, List.getElem?_cons_zero] at q0 q1 g0 g1
            have HBe := Lib.hid ((hbT.setCell (p := ⟨w.heap.size, 0, none⟩) (Nat.le_refl _) (.slice none 0 0)).setCell (p := ⟨w.heap.size, 1, none⟩) (Nat.le_refl _) (.slice none 0 0))
            go_wp2
            exact bodyPost_ret (v := .tuple #[.agg #[.slice none 0 0, .slice none 0 0], .int .i64 11]) (by simp [results, Tryz.results20, go_sem, g0, g1]) rfl ⟨none, 0, 0, none, 0, 0, by rw [HP.out], by rw [HP.out]; exact spc_nil _, HBe.out⟩
          · obtain ⟨pa, pc, rfl⟩ := own_slice' hEp
            obtain ⟨qa, qc, rfl⟩ := own_slice' hEq
            obtain ⟨l1, hl1⟩ : ∃ z, es.1.length = z := ⟨_, rfl⟩
            obtain ⟨l2, hl2⟩ : ∃ z, es.2.length = z := ⟨_, rfl⟩
            have hbX := hbA.alloc hbA.size (.cells #[.slice pa es.1.length pc, .slice qa es.2.length qc] 101)
            have hbA2 : Below wA.heap.size wA ((wA.alloc (.cells #[.slice pa es.1.length pc, .slice qa es.2.length qc] 101)).alloc (.cells #[.slice pa es.1.length pc, .slice qa es.2.length qc] 101)) := ((Below.refl _ wA).alloc (Nat.le_refl _) _).alloc (by simp) _
            have HEp : Hid (NumO ((wA.alloc (.cells #[.slice pa es.1.length pc, .slice qa es.2.length qc] 101)).alloc (.cells #[.slice pa es.1.length pc, .slice qa es.2.length qc] 101)) w2.heap.size (.slice pa es.1.length pc) es.1) := Lib.hid ((own_low hEp hzr).alloc _ |>.alloc _)
            have HEq : Hid (NumO ((wA.alloc (.cells #[.slice pa es.1.length pc, .slice qa es.2.length qc] 101)).alloc (.cells #[.slice pa es.1.length pc, .slice qa es.2.length qc] 101)) w2.heap.size (.slice qa es.2.length qc) es.2) := Lib.hid ((own_low hEq hzr).alloc _ |>.alloc _)
            have o2X := up_cell hbX o2
            have HAA := Lib.hid ((HA.out.below hbA).below hbA2)
            have HOW := Lib.hid (((own_up' HR2o.out hbA).alloc (.cells #[.slice pa es.1.length pc, .slice qa es.2.length qc] 101)).alloc (.cells #[.slice pa es.1.length pc, .slice qa es.2.length qc] 101))
            have hzA := hbA.size
            rw [hl1, hl2] at HEp HEq o2X HAA HOW
            rw [hl1, hl2]
            have HW1x := (Whole.new wA 101 #[.slice pa l1 pc, .slice qa l2 qc])
            have x0c : (wA.alloc (.cells #[.slice pa l1 pc, .slice qa l2 qc] 101)).cell? ⟨wA.heap.size, 0, none⟩ = some (.slice pa l1 pc) := HW1x.cell 0
            have x1c : (wA.alloc (.cells #[.slice pa l1 pc, .slice qa l2 qc] 101)).cell? ⟨wA.heap.size, 1, none⟩ = some (.slice qa l2 qc) := HW1x.cell 1
            clear HW1x hbX hbA2 hl1 hl2
            have hssl : ss.length ≤ 1000000 := by have := hss.out.1; omega
            have HG : Hid ((ss ++ [es]).length = x + 1 ∧ (∀ k, k < x + 1 → rowK steO acts k (ls.getD k []) = some (teAt (ss ++ [es]) k)) ∧ ∀ k, k < x + 1 → Fits (teAt (ss ++ [es]) k).1 ∧ Fits (teAt (ss ++ [es]) k).2) := Lib.hid (by
              obtain ⟨h1, h2, h3⟩ := hss.out
              refine ⟨by simp [h1], fun k hk => ?_, fun k hk => ?_⟩
              · by_cases e : k = x
                · subst e
                  rw [← h1, teAt_snoc, h1]; exact hyes
                · rw [teAt_app _ _ _ (by omega)]; exact h2 k (by omega)
              · by_cases e : k = x
                · subst e
                  rw [← h1, teAt_snoc]; exact hel
                · rw [teAt_app _ _ _ (by omega)]; exact h3 k (by omega))
            clear hbA hEp hEq hyes
            go_wp2_with (at_builtin; (refine wpList_append_sz rfl (.tmp 49) (.tmp 51) 38 rfl w2.heap.size 101 i2 (.agg #[.slice none 0 0, .slice none 0 0]) 2 48 Tryz.underlying38 hi2 hz20 hz21 hz22 rfl (by decide) (.slice bb ss.length cc) rfl ss.length (rcells rows) HOW.out (some ⟨wA.heap.size + 1, 0, none⟩) 1 1 rfl [.slice pa l1 pc, .slice qa l2 qc] (fun h => by cases h) rfl (by have := pair_src (wA.alloc (.cells #[.slice pa l1 pc, .slice qa l2 qc] 101)) (.slice pa l1 pc) (.slice qa l2 qc) 101; simpa using this) (by simp [Value.oneCell']) (by unfold maxLen; omega) (by omega) (by simp; omega) ?_); intro v2 wB hB hgB hatB; refine Hid.out ?_)
            refine Lib.hid ?_
            obtain ⟨vb, vd, rfl⟩ := own_slice' hB
            have kw := HAA.out.grown hgB
            have k1 := kw.cell 1
            have k2 := kw.frozen 1
            simp only [List.getElem?_toArray, List.getElem?_cons_succ, List.getElem?_cons_zero] at k1
            have HNx := Lib.hid (HAA.out.next (v2 := .slice vb (ss.length + 1) vd) HEp.out HEq.out hgB (fun rows' e1 e2 => by
              rw [own_eq e1 HOW.out]; exact hB))
            clear hB hgB hatB kw
            go_wp2
            go_roundw
            case rel => exact ⟨x + 1, ss ++ [es], _, by go_num, by omega, HNx.out, HG⟩
            case measure => simp [intOf]; omega
        · have hx1 : x = ls.length := by have := HNw.out; omega
          have hssl : ss.length ≤ 1000000 := by have := hss.out.1; omega
          have HRow : Hid (rowsK steO acts 0 ls = some ss) := Lib.hid (rowsK_good ls 0 ss (by rw [hss.out.1]; exact hx1) (fun k hk => ⟨teAt ss k, by unfold teAt; rw [List.getD_eq_getElem?_getD, List.getElem?_eq_getElem (by rw [hss.out.1]; omega)]; rfl, by rw [Nat.zero_add]; exact hss.out.2.1 k (by omega)⟩))
          have hst : ∀ i, i < ss.length → Fits (teAt ss i).1 ∧ Fits (teAt ss i).2 := fun i hi => hss.out.2.2 i (by rw [← hss.out.1]; exact hi)
          have HST := Lib.hid hst
          obtain ⟨b', d', e, hd, hnil, hrows⟩ := HA.out.rows.arg hst
          cases e
          have hAg : SpecArg wr a acts.length c bb ss.length cc ⟨acts, ss⟩ := ⟨HAc.out.below HA.out.mid, by omega, hnil, rfl, hd, by omega, hrows⟩
          have HCk := Lib.hid (RSIs_any hAg)
          have hbl : ∀ ad, a = some ad → ad.block ≠ w.heap.size := fun ad e => by have := HBl.out ad e; omega
          have HBL := Lib.hid hbl
          clear hAg hd hnil hrows hst hbl
          go_wp2_with fail
          refine HCk.out.mono ?_
          rintro e wC ⟨rfl, hbC⟩
          have HbC := Lib.hid hbC
          have hzC := hbC.size
          have hrC := HResr.out.below hbC HResr.out.lt
          have hbT := HBr.out.trans (hbC.mono HBr.out.size)
          have HArg := Lib.hid ((HA.out.below hbC).rows)
          have HStr := Lib.hid ((HAc.out.below HA.out.mid).below hbC)
          have o1C := up_cell hbC o1
          have o2C := up_cell hbC o2
          clear hbC
          have q0 := hrC.cell 0
          have q1 := hrC.cell 1
          have q2 := hrC.frozen 0
          have q3 := hrC.frozen 1
          have q4 := hrC.lt
          have HrC := Lib.hid hrC
          by_cases hck : spcB ⟨acts, ss⟩ = true
          · have HP : Hid (parseSp s.data.toList = (⟨acts, ss⟩, 0)) := Lib.hid (by rw [HP3.out, HRow.out]; exact if_pos hck)
            rw [hck]
            have g0 := (hrC.set 0 (.slice a acts.length c)).cell 0
            have g1 := ((hrC.set 0 (.slice a acts.length c)).set 1 (.slice bb ss.length cc)).cell 1
            simp only [List.setIfInBounds_toArray, List.set_cons_zero, List.set_cons_succ, List.getElem?_toArray, List.getElem?_cons_succ, List.getElem?_cons_zero] at q0 q1 g0 g1
            have HBe := Lib.hid ((hbT.setCell (p := ⟨w.heap.size, 0, none⟩) (Nat.le_refl _) (.slice a acts.length c)).setCell (p := ⟨w.heap.size, 1, none⟩) (Nat.le_refl _) (.slice bb ss.length cc))
            have HFin : Hid (SpecArg ((wC.setCell ⟨w.heap.size, 0, none⟩ (.slice a acts.length c)).setCell ⟨w.heap.size, 1, none⟩ (.slice bb ss.length cc)) a acts.length c bb ss.length cc ⟨acts, ss⟩) := Lib.hid (by
              obtain ⟨b', d', e, hd, hnil, hrows⟩ := (stes_stored (u := .slice a acts.length c) (v := .slice bb ss.length cc) HArg.out hrC).arg HST.out
              cases e
              exact ⟨strs_stored HStr.out HBL.out, by omega, hnil, rfl, hd, by omega, hrows⟩)
            clear hrC hbT
            go_wp2
            exact bodyPost_ret (v := .tuple #[.agg #[.slice a acts.length c, .slice bb ss.length cc], .int .i64 0]) (by simp [results, Tryz.results20, go_sem, g0, g1]) rfl ⟨a, acts.length, c, bb, ss.length, cc, by rw [HP.out], by rw [HP.out]; exact HFin.out, HBe.out⟩
          · have HP : Hid (parseSp s.data.toList = (noSpc, 30)) := Lib.hid (by rw [HP3.out, HRow.out]; exact if_neg hck)
            rw [show spcB ⟨acts, ss⟩ = false by simpa using hck]
            have g0 := (hrC.set 0 (.slice none 0 0)).cell 0
            have g1 := ((hrC.set 0 (.slice none 0 0)).set 1 (.slice none 0 0)).cell 1
            simp only [List.setIfInBounds_toArray, List.set_cons_zero, List.set_cons_succ, List.getElem?_toArray, List.getElem?_cons_succ, List.getElem?_cons_zero] at q0 q1 g0 g1
            have HBe := Lib.hid ((hbT.setCell (p := ⟨w.heap.size, 0, none⟩) (Nat.le_refl _) (.slice none 0 0)).setCell (p := ⟨w.heap.size, 1, none⟩) (Nat.le_refl _) (.slice none 0 0))
            clear hrC hbT
            go_wp2
            exact bodyPost_ret (v := .tuple #[.agg #[.slice none 0 0, .slice none 0 0], .int .i64 30]) (by simp [results, Tryz.results20, go_sem, g0, g1]) rfl ⟨none, 0, 0, none, 0, 0, by rw [HP.out], by rw [HP.out]; exact spc_nil _, HBe.out⟩
end Go.Proofs.YtpmbijlldoiplaaGreatDoor
