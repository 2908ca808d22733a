/- spec: step. -/
import Derived.Test.YtgnbkepdbdgkdaaGreatDoorFitL
import Derived.Test.YtgnbkepdbdgkdaaGreatDoorJq19
import Derived.StillTailTactics
import Derived.Deep.Cut
namespace Go.Proofs.YtgnbkepdbdgkdaaGreatDoor
open Go.RowKit Pl

def marksL (k : Nat) (l : List Nat) : List Value := (List.range k).map fun y => Value.bool (decide (y ∈ l))
theorem marksL_len (k : Nat) (l : List Nat) : (marksL k l).length = k := by simp [marksL]
theorem marksL_at {k : Nat} (l : List Nat) {y : Nat} (h : y < k) : (marksL k l)[y]? = some (.bool (decide (y ∈ l))) := by simp [marksL, h]
theorem marksL_put {k : Nat} {l : List Nat} {y : Nat} (_h : y < k) (_hn : y ∉ l) : (marksL k l).set y (.bool true) = marksL k (cAdd l y) := by
  refine List.ext_getElem? fun i => ?_
  rw [List.getElem?_set, marksL_len]
  rcases Nat.lt_or_ge i k with hi | hi
  · rw [marksL_at _ hi, marksL_at _ hi]
    by_cases e : y = i
    · rw [if_pos e, if_pos _h]
      rw [decide_eq_true ((cAdd_mem l y i).2 (.inr e.symm))]
    · rw [if_neg e]
      congr 2
      refine decide_eq_decide.2 ?_
      rw [cAdd_mem]
      exact ⟨.inl, fun h => h.resolve_right fun q => e q.symm⟩
  · rw [List.getElem?_eq_none (by rw [marksL_len]; exact hi), List.getElem?_eq_none (by rw [marksL_len]; exact hi)]
    split
    · omega
    · rfl
theorem marksL_del {k : Nat} {l : List Nat} (hn : l.Nodup) {r y : Nat} (hy : y < k) (h : l[r]? = some y) : (marksL k (l.drop r)).set y (.bool false) = marksL k (l.drop (r + 1)) := by
  obtain ⟨hr, he⟩ := List.getElem?_eq_some_iff.1 h
  have hd : l.drop r = y :: l.drop (r + 1) := by rw [List.drop_eq_getElem_cons hr, he]
  have hnd : (l.drop r).Nodup := hn.sublist (List.drop_sublist r l)
  rw [hd, List.nodup_cons] at hnd
  refine List.ext_getElem? fun i => ?_
  rw [List.getElem?_set, marksL_len]
  rcases Nat.lt_or_ge i k with hi | hi
  · rw [marksL_at _ hi, marksL_at _ hi]
    by_cases e : y = i
    · rw [if_pos e, if_pos hy]
      rw [decide_eq_false (by rw [← e]; exact hnd.1)]
    · rw [if_neg e]
      congr 2
      refine decide_eq_decide.2 ?_
      rw [hd, List.mem_cons]
      exact ⟨fun h => h.resolve_left fun q => e q.symm, .inr⟩
  · rw [List.getElem?_eq_none (by rw [marksL_len]; exact hi), List.getElem?_eq_none (by rw [marksL_len]; exact hi)]
    split
    · omega
    · rfl
theorem marksL_none (k : Nat) : marksL k [] = (List.replicate k false).map Value.bool := by
  refine List.ext_getElem? fun i => ?_
  rcases Nat.lt_or_ge i k with hi | hi
  · rw [marksL_at _ hi]
    simp [hi]
  · rw [List.getElem?_eq_none (by rw [marksL_len]; exact hi), List.getElem?_eq_none (by simpa using hi)]

/-- a crowd in memory -/
structure CrAt (W : World) (B Cb k M : Nat) (sv pv : Value) (l : List Nat) : Prop where
  box : Whole W Cb 182 #[sv, pv, .slice (some ⟨M, 0, none⟩) k k]
  sta : NumO W B sv (zs l)
  spa : ∃ p, NumO W B pv p
  far : pv.ownBlock = none ∨ pv.ownBlock ≠ sv.ownBlock
  mar : W.ownsRow B 4 1 (.slice (some ⟨M, 0, none⟩) k k) k (marksL k [])
  low : B ≤ Cb

/-- where step stands -/
structure StpAt (w V : World) (B Cb k M : Nat) (sv pv nv : Value) (mc : Array Value) (l acc mk : List Nat) : Prop where
  box : Whole V Cb 182 #[sv, pv, .slice (some ⟨M, 0, none⟩) k k]
  sys : Whole V w.heap.size 25 mc
  sta : NumO V B sv (zs l)
  nxt : NumO V B nv (zs acc)
  far : nv.ownBlock = none ∨ nv.ownBlock ≠ sv.ownBlock
  mar : V.ownsRow B 4 1 (.slice (some ⟨M, 0, none⟩) k k) k (marksL k mk)
  below : Below B w V
section
variable {w V W : World} {B Cb k M : Nat} {sv pv nv : Value} {mc : Array Value} {l acc mk : List Nat}
theorem StpAt.up (h : StpAt w V B Cb k M sv pv nv mc l acc mk) (hB : B ≤ w.heap.size) (hb : Below V.heap.size V W) : StpAt w W B Cb k M sv pv nv mc l acc mk :=
  ⟨h.box.below hb h.box.lt, h.sys.below hb h.sys.lt, own_up' h.sta hb, own_up' h.nxt hb, h.far, own_up' h.mar hb, h.below.trans (hb.mono (Nat.le_trans hB h.below.size))⟩
theorem StpAt.put (h : StpAt w V B Cb k M sv pv nv mc l acc mk) {y : Nat} {u : Bool} {mk' : List Nat} (he : (marksL k mk).set y (.bool u) = marksL k mk') : StpAt w (V.setCell ⟨M, y, none⟩ (.bool u)) B Cb k M sv pv nv mc l acc mk' := by
  have h1 := h.mar.stored y (.bool u)
  rw [he] at h1
  exact ⟨h.box.grown h1.2 (own_whole h.mar h.box (by decide)), h.sys.grown h1.2 (own_whole h.mar h.sys (by decide)), World.ownsRow.kept h.sta h1.2 (own_apart h.sta h.mar (by decide)), World.ownsRow.kept h.nxt h1.2 (own_apart h.nxt h.mar (by decide)), h.far, h1.1, h.below.setCell (show B ≤ M from own_ge h.mar _ rfl) _⟩
theorem zs_snoc (l : List Nat) (y : Nat) : zs (l ++ [y]) = zs l ++ [(y : Int)] := by simp [zs]
theorem StpAt.push (h : StpAt w V B Cb k M sv pv nv mc l acc mk) (hB : B ≤ w.heap.size) {o : Obj} {nv' : Value} {y : Nat} (hg : (V.alloc o).grownBy W nv.ownBlock) (hown : W.ownsRow B 3 1 nv' ((zs acc).length + 1) ((zs acc).map (Value.int .i64) ++ [.int .i64 (y : Int)])) (hat : nv'.ownBlock = nv.ownBlock ∨ nv'.ownBlock = some (V.alloc o).heap.size) : StpAt w W B Cb k M sv pv nv' mc l (acc ++ [y]) mk := by
  have h1 := h.up hB ((Below.refl _ V).alloc (Nat.le_refl _) o)
  refine ⟨h1.box.grown hg (own_whole h1.nxt h1.box (by decide)), h1.sys.grown hg (own_whole h1.nxt h1.sys (by decide)), World.ownsRow.kept h1.sta hg ?_, ?_, ?_, h1.mar.kept hg (own_apart h1.mar h1.nxt (by decide)), h1.below.grown hg (Nat.le_trans hB h1.below.size) (own_ge h1.nxt)⟩
  · rcases h.far with e | e
    · rw [e]; cases sv.ownBlock <;> simp
    · exact .inr fun q => e q.symm
  · unfold NumO
    rw [zs_snoc, List.length_append, List.length_singleton, List.map_append]
    exact hown
  · rcases hat with e | e
    · rw [e]; exact h.far
    · right
      rw [e]
      intro q
      have := (World.ownsRow.lt h1.sta _ q.symm).2
      omega
end
theorem NumO.cut {W : World} {B : Nat} {a : Option Addr} {n c : Nat} {xs : List Int} (h : NumO W B (.slice a n c) xs) : NumO W B (.slice a 0 c) [] := by
  have h1 : W.ownsRow B 3 1 (.slice a n c) xs.length (xs.map (Value.int .i64)) := h
  refine ⟨rfl, ?_⟩
  rcases h1.2 with ⟨e, _⟩ | ⟨g, cap, cur, e, hg, hh, hc, hm, hsz, ht⟩
  · simp only [Value.slice.injEq] at e
    obtain ⟨rfl, _, rfl⟩ := e
    exact .inl ⟨rfl, rfl⟩
  · simp only [Value.slice.injEq] at e
    obtain ⟨rfl, _, rfl⟩ := e
    exact .inr ⟨g, c, cur, rfl, hg, hh, Nat.zero_le _, hm, hsz, by simp⟩

set_option maxRecDepth 100000 in
set_option maxHeartbeats 16000000 in
theorem step_any {w00 w : World} {a : Option Addr} {n c : Nat} {b : Option Addr} {k d : Nat} {m : Syst} {Cb M : Nat} {sv pv : Value} {l : List Nat} (hW : Below w00.heap.size w00 w) (hS : SysArg w00 a n c b k d m) (hm : sysB m = true) (h : CrAt w w00.heap.size Cb k M sv pv l) (hl : CrOk m.states.length l) (act : Int) :
    Calls Tryz.prog 104 #[.pointer (some ⟨Cb, 0, none⟩), .agg #[.slice a n c, .slice b k d], .int .i64 act] w fun e w' => e = .returned (.tuple #[]) ∧ ∃ sv' pv', CrAt w' w00.heap.size Cb k M sv' pv' (crN m.states l act []) ∧ Below w00.heap.size w w' := by
  have hB := hW.size
  obtain ⟨B, HB⟩ : ∃ z, Hid (w00.heap.size = z) := ⟨_, Lib.hid rfl⟩
  rw [HB.out] at hW h hB ⊢
  obtain ⟨i1, hi1, hz10, hz11, hz12⟩ := info_parts infoNumS
  obtain ⟨sa, sc, rfl⟩ := own_slice' h.sta
  obtain ⟨p, hp⟩ := h.spa
  obtain ⟨pa, pc, rfl⟩ := own_slice' hp
  have hal := (Below.refl w.heap.size w).alloc (Nat.le_refl _) (.cells #[.slice a n c, .slice b k d] 25)
  obtain ⟨w0, HW0⟩ : ∃ z, Hid (w.alloc (.cells #[.slice a n c, .slice b k d] 25) = z) := ⟨_, Lib.hid rfl⟩
  obtain ⟨ln, HLn⟩ : ∃ z, Hid ((zs l).length = z) := ⟨_, Lib.hid rfl⟩
  obtain ⟨pn, HPn⟩ : ∃ z, Hid (p.length = z) := ⟨_, Lib.hid rfl⟩
  rw [HLn.out] at h
  rw [HPn.out] at h hp
  have HSt0 : Hid (StpAt w w0 B Cb k M (.slice sa ln sc) (.slice pa pn pc) (.slice pa 0 pc) #[.slice a n c, .slice b k d] l (crN m.states (l.take 0) act []) (crN m.states (l.take 0) act [])) := Lib.hid (by
    have hsys := Whole.new w 25 #[.slice a n c, .slice b k d]
    rw [HW0.out] at hal hsys
    exact ⟨h.box.below hal h.box.lt, hsys, own_up' h.sta hal, own_up' (NumO.cut hp) hal, (by cases pa <;> exact h.far), own_up' h.mar hal, hal.mono hB⟩)
  have HCb : Hid (B ≤ Cb) := Lib.hid h.low
  have HS := Lib.hid hS
  have HWW := Lib.hid hW
  have HV := Lib.hid hm
  have HCl := Lib.hid hl
  have HKl : Hid (m.states.length = k) := Lib.hid hS.len.symm
  have hk5 : k ≤ 5000 := by have := ((sysB_iff m).1 hm).2.2.1; have := HKl.out; omega
  have HLl : Hid (l.length = ln) := Lib.hid (by rw [← HLn.out, zs_len])
  have hln : ln ≤ 5000 := by have h1 := hl.len; have := HLl.out; have := HKl.out; omega
  have c0 := HSt0.out.box.cell 0
  have c1 := HSt0.out.box.cell 1
  simp only [List.getElem?_toArray, List.getElem?_cons_succ, List.getElem?_cons_zero] at c0 c1
  have c0 : (w.alloc (.cells #[.slice a n c, .slice b k d] 25)).cell? ⟨Cb, 0, none⟩ = some (.slice sa ln sc) := by rw [HW0.out]; exact c0
  have c1 : (w.alloc (.cells #[.slice a n c, .slice b k d] 25)).cell? ⟨Cb, 1, none⟩ = some (.slice pa pn pc) := by rw [HW0.out]; exact c1
  clear h hp hS hm hl hal hW
  go_enter Tryz.func104, Tryz.ntmps104
  go_wp2
  rw [HW0.out]
  clear c0 c1
  go_loopw [6, 8, 10, 23] (fun nv _ _ q wr => ∃ (r : Nat) (na : Option Addr) (nn nc : Nat), q = .int .i64 r ∧ r ≤ ln ∧ nv = .slice na nn nc ∧ Hid (StpAt w wr B Cb k M (.slice sa ln sc) (.slice pa pn pc) (.slice na nn nc) #[.slice a n c, .slice b k d] l (crN m.states (l.take r) act []) (crN m.states (l.take r) act []))) (fun _ _ _ q _ => ln - (intOf q).toNat)
  case atStart => exact ⟨0, _, _, _, rfl, Nat.zero_le _, rfl, HSt0⟩
  case round =>
    obtain ⟨w3, hw3⟩ : ∃ z, z = wr := ⟨_, rfl⟩
    subst hw3
    obtain ⟨r, na, nn, nc, rfl, hr, rfl, hSt⟩ := hrel
    clear HSt0
    by_cases hlt : r < ln
    · have HLr : Hid (r < l.length ∧ r < (zs l).length) := Lib.hid ⟨by rw [HLl.out]; exact hlt, by rw [HLn.out]; exact hlt⟩
      obtain ⟨x, HX⟩ : ∃ x, Hid (l[r]? = some x) := ⟨_, Lib.hid (List.getElem?_eq_getElem HLr.out.1)⟩
      have hsta : w3.ownsRow B 3 1 (.slice sa ln sc) (zs l).length ((zs l).map (Value.int .i64)) := hSt.out.sta
      rw [HLn.out] at hsta
      obtain ⟨sb, hsb⟩ : ∃ sb, sa = some ⟨sb, 0, none⟩ := by
        rcases hsta.2 with ⟨e, e0⟩ | ⟨g, cap, cur, e, _⟩
        · omega
        · simp only [Value.slice.injEq] at e
          exact ⟨g, e.1⟩
      subst hsb
      have c0 : w3.cell? ⟨sb, r, none⟩ = some (.int .i64 (x : Int)) := by
        rw [hsta.cellAt r (by omega)]
        unfold zs
        rw [List.map_map, List.getElem?_map, HX.out]
        rfl
      have hxm := HCl.out.2 x (List.mem_of_getElem? HX.out)
      have HXm := Lib.hid hxm
      obtain ⟨bx, off, rfl, ai, ni, ci, e11, hE⟩ := HS.out.rows x hxm
      have hb03 : Below w00.heap.size w00 w3 := by have h1 := HWW.out.trans hSt.out.below; rw [← HB.out] at h1; exact h1
      have e10 := (hb03.cell (lt_of_cell e11)).trans e11
      have HE := Lib.hid hE
      have y1 := hSt.out.sys.cell 1
      simp only [List.getElem?_toArray, List.getElem?_cons_succ, List.getElem?_cons_zero] at y1
      have hX0 : (0 : Int) ≤ (x : Int) := by omega
      have hX1 : (x : Int) < (k : Int) := by have := HKl.out; omega
      have HEl : Hid ((stAt m.states x).length = ni) := Lib.hid hE.len.symm
      have hni : ni ≤ 400000 := by
        have h3 := hE.len
        have h4 := total_take m.states x hxm
        have h5 := total_take_le m.states (x + 1)
        have := ((sysB_iff m).1 HV.out).2.2.2.2
        omega
      obtain ⟨acc, HAcc⟩ : ∃ z, Hid (crN m.states (l.take r) act [] = z) := ⟨_, Lib.hid rfl⟩
      have HOk : Hid (CrOk m.states.length acc) := Lib.hid (by rw [← HAcc.out]; exact crN_ok HV.out HCl.out.2 act r)
      rw [HAcc.out] at hSt
      have HSt1 : Hid (StpAt w w3 B Cb k M (.slice (some ⟨sb, 0, none⟩) ln sc) (.slice pa pn pc) (.slice na nn nc) #[.slice a n c, .slice (some ⟨bx, off, none⟩) k d] l (crE act acc ((stAt m.states x).take 0)) (crE act acc ((stAt m.states x).take 0))) := hSt
      have HNx : Hid (crN m.states (l.take (r + 1)) act [] = crE act acc (stAt m.states x)) := Lib.hid (by rw [crN_next' HX.out, HAcc.out])
      clear hsta hE hxm hr hb03 e11
      go_wp2
      go_loopw [6, 10, 33] (fun nv _ q wr => ∃ (j : Nat) (na : Option Addr) (nn nc : Nat), q = .int .i64 j ∧ j ≤ ni ∧ nv = .slice na nn nc ∧ Hid (StpAt w wr B Cb k M (.slice (some ⟨sb, 0, none⟩) ln sc) (.slice pa pn pc) (.slice na nn nc) #[.slice a n c, .slice (some ⟨bx, off, none⟩) k d] l (crE act acc ((stAt m.states x).take j)) (crE act acc ((stAt m.states x).take j)))) (fun _ _ q _ => ni - (intOf q).toNat)
      case atStart => exact ⟨0, _, _, _, rfl, Nat.zero_le _, rfl, HSt1⟩
      case round =>
        obtain ⟨w8, hw8⟩ : ∃ z, z = wr := ⟨_, rfl⟩
        subst hw8
        obtain ⟨j, na, nn, nc, rfl, hj, rfl, hSj⟩ := hrel
        clear c0 e10 y1 HSt1 hSt
        by_cases hlt4 : j < ni
        · have hjl : j < (stAt m.states x).length := by have := HEl.out; omega
          have hb08 : Below w00.heap.size w00 w8 := by have h1 := HWW.out.trans hSj.out.below; rw [← HB.out] at h1; exact h1
          obtain ⟨be, oe, rfl, d1, d2⟩ := (HE.out.cells.below hb08) j hjl
          have hef := edge_ok HV.out HXm.out hjl
          obtain ⟨u, HU⟩ : ∃ z, Hid ((edAt (stAt m.states x) j).1 = z) := ⟨_, Lib.hid rfl⟩
          obtain ⟨v, hvv⟩ := Int.eq_ofNat_of_zero_le hef.2.2.1
          have HVv : Hid ((edAt (stAt m.states x) j).2.toNat = v) := Lib.hid (by rw [hvv]; rfl)
          rw [HU.out] at d1
          rw [hvv] at d2
          have hvk : v < k := by have := hef.2.2.2; have := HKl.out; omega
          have HNj := Lib.hid (crE_next hjl act acc)
          have HOj := Lib.hid (crE_ok HV.out HXm.out act HOk.out j (by omega))
          rw [HU.out, HVv.out] at HNj
          obtain ⟨ac, HAc⟩ : ∃ z, Hid (crE act acc ((stAt m.states x).take j) = z) := ⟨_, Lib.hid rfl⟩
          rw [HAc.out] at HNj HOj hSj
          have hal : Below w8.heap.size w8 (w8.alloc (.cells #[.int .i64 u, .int .i64 (v : Int)] 87)) := (Below.refl _ w8).alloc (Nat.le_refl _) _
          have hWe := Whole.new w8 87 #[.int .i64 u, .int .i64 (v : Int)]
          have HSe := Lib.hid (hSj.out.up hB hal)
          obtain ⟨wE, HwE⟩ : ∃ z, Hid (w8.alloc (.cells #[.int .i64 u, .int .i64 (v : Int)] 87) = z) := ⟨_, Lib.hid rfl⟩
          obtain ⟨Eb, HEb⟩ : ∃ z, Hid (w8.heap.size = z) := ⟨_, Lib.hid rfl⟩
          rw [HwE.out, HEb.out] at hWe
          rw [HwE.out] at HSe
          have t0 := hWe.cell 0
          have t1 := hWe.cell 1
          have t2 := HSe.out.box.cell 2
          simp only [List.getElem?_toArray, List.getElem?_cons_succ, List.getElem?_cons_zero] at t0 t1 t2
          have t3 : wE.cell? ⟨M, v, none⟩ = some (.bool (decide (v ∈ ac))) := by rw [HSe.out.mar.cellAt v (by omega), marksL_at _ hvk]
          have t4 := HSe.out.mar.frozenAt v
          have HWe := Lib.hid hWe
          have hv0 : (0 : Int) ≤ (v : Int) := by omega
          have hv1 : (v : Int) < (k : Int) := by omega
          have HSq : Hid (∀ q, StpAt w (wE.drewN q) B Cb k M (.slice (some ⟨sb, 0, none⟩) ln sc) (.slice pa pn pc) (.slice na nn nc) #[.slice a n c, .slice (some ⟨bx, off, none⟩) k d] l ac ac) := Lib.hid (fun q => HSe.out.up hB (below_drewN (Below.refl _ _) q))
          clear hb08 hef hvv hal hWe hjl
          by_cases hq : u = act
          · have hq2 : (u == act) = true := by rw [hq]; simp
            rw [if_pos hq] at HNj
            by_cases hin : v ∈ ac
            · rw [decide_eq_true hin] at t3
              have HSn : Hid (∀ q, StpAt w (wE.drewN q) B Cb k M (.slice (some ⟨sb, 0, none⟩) ln sc) (.slice pa pn pc) (.slice na nn nc) #[.slice a n c, .slice (some ⟨bx, off, none⟩) k d] l (crE act acc ((stAt m.states x).take (j + 1))) (crE act acc ((stAt m.states x).take (j + 1)))) := Lib.hid (fun q => by
                rw [HNj.out]
                unfold cAdd
                rw [if_pos hin]
                exact HSq.out q)
              clear hin hq
              go_wp2
              rw [HwE.out, HEb.out]
              go_quiet (fail)
              go_wp2
              go_roundw
              case rel => exact ⟨j + 1, _, _, _, by go_num, by omega, rfl, Lib.hid (HSn.out _)⟩
              case measure => simp [intOf]; omega
            · rw [decide_eq_false hin] at t3
              have HIn := Lib.hid hin
              clear hin hq
              go_wp2
              rw [HwE.out, HEb.out]
              go_quiet (fail)
              go_wp2
              have HSd := Lib.hid (HSq.out nq)
              have HWd := Lib.hid (HWe.out.below (below_drewN (Below.refl _ _) nq) HWe.out.lt)
              obtain ⟨wD, HwD⟩ : ∃ y, Hid (wE.drewN nq = y) := ⟨_, Lib.hid rfl⟩
              rw [HwD.out] at HSd HWd
              rw [HwD.out]
              clear t0 t1 t2 t3 t4 HSq HSe HWe
              have t1 := HWd.out.cell 1
              have t2 := HSd.out.box.cell 2
              simp only [List.getElem?_toArray, List.getElem?_cons_succ, List.getElem?_cons_zero] at t1 t2
              have t3 : wD.drew.cell? ⟨M, v, none⟩ = some (.bool false) := by
                show wD.cell? _ = _
                rw [HSd.out.mar.cellAt v (by omega), marksL_at _ hvk, decide_eq_false HIn.out]
              have t4 : wD.drew.frozen? ⟨M, v, none⟩ = false := HSd.out.mar.frozenAt v
              obtain ⟨w9, Hw9⟩ : ∃ y, Hid ((wD.setCell ⟨M, v, none⟩ (.bool true)).drew = y) := ⟨_, Lib.hid rfl⟩
              have hS9 := (HSd.out.put (marksL_put hvk HIn.out)).up hB (Below.refl _ _).drew
              have hW9 : Whole (wD.setCell ⟨M, v, none⟩ (.bool true)).drew Eb 87 #[.int .i64 u, .int .i64 (v : Int)] := by
                have h1 := HWd.out.grown (grown_self wD ⟨M, v, none⟩ (.bool true)) (own_whole HSd.out.mar HWd.out (by decide))
                exact h1.below (Below.refl _ _).drew h1.lt
              rw [Hw9.out] at hS9 hW9
              have HS9 := Lib.hid hS9
              have HW9 := Lib.hid hW9
              clear hS9 hW9
              go_still_tail 7, (by kernel_rfl)
              change wpList _ _ _ _ _ wD.drew
              go_upto_region 10 with (fail)
              first | rw [Hw9.out] | (rw [show (wD.drew.setCell ⟨M, v, none⟩ (.bool true)) = w9 from Hw9.out])
              clear t1 t2 t3 t4 HSd HWd HwD Hw9
              have t1 := HW9.out.cell 1
              simp only [List.getElem?_toArray, List.getElem?_cons_succ, List.getElem?_cons_zero] at t1
              have hzB : B ≤ w9.heap.size := Nat.le_trans hB (Nat.le_of_lt HS9.out.sys.lt)
              have hacl : (zs ac).length ≤ 5000 := by rw [zs_len]; have := HOj.out.len; have := HKl.out; omega
              obtain ⟨al, HAl⟩ : ∃ z, Hid ((zs ac).length = z) := ⟨_, Lib.hid rfl⟩
              have hnx : w9.ownsRow B 3 1 (.slice na nn nc) (zs ac).length ((zs ac).map (Value.int .i64)) := HS9.out.nxt
              obtain rfl : nn = (zs ac).length := by
                rcases hnx.2 with ⟨e, e0⟩ | ⟨g, cap, cur, e, _⟩
                · simp only [Value.slice.injEq] at e; omega
                · simp only [Value.slice.injEq] at e; exact e.2.1
              rw [HAl.out] at hnx hacl HS9
              rw [HAl.out]
              have HNx2 := Lib.hid (hnx.alloc (.cells #[.int .i64 (v : Int)] 3))
              clear hnx
              go_wp2_with (at_builtin; (refine wpList_append_sz rfl (.tmp 59) (.tmp 62) 28 rfl B 3 i1 (.int .i64 0) 1 8 Tryz.underlying28 hi1 hz10 hz11 hz12 rfl (by decide) (.slice na al nc) rfl al ((zs ac).map (Value.int .i64)) HNx2.out (some ⟨w9.heap.size, 0, none⟩) 1 1 rfl [.int .i64 (v : Int)] (fun h => by cases h) rfl (one_src _ _ _) (by simp [Value.oneCell']) (by unfold maxLen; omega) (by omega) (by simp; omega) ?_); intro v2 w2 hv2 hg2 hat2; refine Hid.out ?_)
              refine Lib.hid ?_
              obtain ⟨va, vc, rfl⟩ := own_slice' hv2
              have HSn : Hid (StpAt w w2 B Cb k M (.slice (some ⟨sb, 0, none⟩) ln sc) (.slice pa pn pc) (.slice va (al + 1) vc) #[.slice a n c, .slice (some ⟨bx, off, none⟩) k d] l (crE act acc ((stAt m.states x).take (j + 1))) (crE act acc ((stAt m.states x).take (j + 1)))) := Lib.hid (by
                have e : cAdd ac v = ac ++ [v] := by unfold cAdd; rw [if_neg HIn.out]
                have h1 := HS9.out
                rw [HNj.out]
                rw [e] at h1 ⊢
                refine h1.push hB hg2 ?_ hat2
                rw [HAl.out]
                exact hv2)
              clear hv2 hg2 hat2
              go_wp2
              go_roundw
              case rel => exact ⟨j + 1, _, _, _, by go_num, by omega, rfl, HSn⟩
              case measure => simp [intOf]; omega
          · have hq2 : (u == act) = false := by rw [beq_eq_false_iff_ne]; exact hq
            rw [if_neg hq] at HNj
            have HSn : Hid (∀ q, StpAt w (wE.drewN q) B Cb k M (.slice (some ⟨sb, 0, none⟩) ln sc) (.slice pa pn pc) (.slice na nn nc) #[.slice a n c, .slice (some ⟨bx, off, none⟩) k d] l (crE act acc ((stAt m.states x).take (j + 1))) (crE act acc ((stAt m.states x).take (j + 1)))) := Lib.hid (fun q => by
              rw [HNj.out]
              exact HSq.out q)
            clear hq
            go_wp2
            rw [HwE.out, HEb.out]
            go_quiet (fail)
            go_wp2
            go_roundw
            case rel => exact ⟨j + 1, _, _, _, by go_num, by omega, rfl, Lib.hid (HSn.out _)⟩
            case measure => simp [intOf]; omega
        · have hjn : ni = j := by omega
          subst hjn
          have HSn : Hid (StpAt w w8 B Cb k M (.slice (some ⟨sb, 0, none⟩) ln sc) (.slice pa pn pc) (.slice na nn nc) #[.slice a n c, .slice (some ⟨bx, off, none⟩) k d] l (crN m.states (l.take (r + 1)) act []) (crN m.states (l.take (r + 1)) act [])) := Lib.hid (by
            have h1 := hSj.out
            rw [List.take_of_length_le (by rw [HEl.out]; exact Nat.le_refl _)] at h1
            rw [HNx.out]
            exact h1)
          go_wp2
          go_roundw
          case rel => exact ⟨r + 1, _, _, _, by go_num, by omega, rfl, HSn⟩
          case measure => simp [intOf]; omega
    · have hrn : ln = r := by omega
      subst hrn
      obtain ⟨R, HR⟩ : ∃ z, Hid (crN m.states l act [] = z) := ⟨_, Lib.hid rfl⟩
      have HOk : Hid (CrOk m.states.length R) := Lib.hid (by
        have h1 := crN_ok HV.out HCl.out.2 act l.length
        rw [List.take_length, HR.out] at h1
        exact h1)
      rw [List.take_of_length_le (by rw [HLl.out]; exact Nat.le_refl _), HR.out] at hSt
      have hnx : w3.ownsRow B 3 1 (.slice na nn nc) (zs R).length ((zs R).map (Value.int .i64)) := hSt.out.nxt
      obtain rfl : nn = (zs R).length := by
        rcases hnx.2 with ⟨e, e0⟩ | ⟨g, cap, cur, e, _⟩
        · simp only [Value.slice.injEq] at e; omega
        · simp only [Value.slice.injEq] at e; exact e.2.1
      have HZ : Hid ((zs R).length = R.length) := Lib.hid (zs_len R)
      have hRl : (zs R).length ≤ 5000 := by rw [zs_len]; have := HOk.out.len; have := HKl.out; omega
      obtain ⟨nn, HNn⟩ : ∃ z, Hid ((zs R).length = z) := ⟨_, Lib.hid rfl⟩
      rw [HNn.out] at hSt hRl
      rw [HNn.out]
      have HSr : Hid (StpAt w w3 B Cb k M (.slice sa ln sc) (.slice pa pn pc) (.slice na nn nc) #[.slice a n c, .slice b k d] l R (R.drop 0)) := by rw [List.drop_zero]; exact hSt
      clear hnx hSt hlt hr
      go_wp2
      go_loopw [12, 68] (fun _ q wr => ∃ r : Nat, q = .int .i64 r ∧ r ≤ nn ∧ Hid (StpAt w wr B Cb k M (.slice sa ln sc) (.slice pa pn pc) (.slice na nn nc) #[.slice a n c, .slice b k d] l R (R.drop r))) (fun _ q _ => nn - (intOf q).toNat)
      case atStart => exact ⟨0, rfl, Nat.zero_le _, HSr⟩
      case round =>
        obtain ⟨w4, hw4⟩ : ∃ z, z = wr := ⟨_, rfl⟩
        subst hw4
        obtain ⟨r, rfl, hr, hS4⟩ := hrel
        clear HSr
        by_cases hlt : r < nn
        · have hrl : r < R.length := by have := HNn.out; have := HZ.out; omega
          obtain ⟨x, HX⟩ : ∃ x, Hid (R[r]? = some x) := ⟨_, Lib.hid (List.getElem?_eq_getElem hrl)⟩
          have hnx : w4.ownsRow B 3 1 (.slice na nn nc) (zs R).length ((zs R).map (Value.int .i64)) := hS4.out.nxt
          rw [HNn.out] at hnx
          obtain ⟨nb, hnb⟩ : ∃ nb, na = some ⟨nb, 0, none⟩ := by
            rcases hnx.2 with ⟨e, e0⟩ | ⟨g, cap, cur, e, _⟩
            · omega
            · simp only [Value.slice.injEq] at e
              exact ⟨g, e.1⟩
          subst hnb
          have c0 : w4.cell? ⟨nb, r, none⟩ = some (.int .i64 (x : Int)) := by
            rw [hnx.cellAt r (by omega)]
            unfold zs
            rw [List.map_map, List.getElem?_map, HX.out]
            rfl
          have hxk : x < k := by have := HOk.out.2 x (List.mem_of_getElem? HX.out); have := HKl.out; omega
          have c1 := hS4.out.box.cell 2
          simp only [List.getElem?_toArray, List.getElem?_cons_succ, List.getElem?_cons_zero] at c1
          have c2 := hS4.out.mar.cellAt x (by omega)
          rw [marksL_at _ hxk] at c2
          have c3 := hS4.out.mar.frozenAt x
          obtain ⟨mv, HMv⟩ : ∃ z, Hid (decide (x ∈ R.drop r) = z) := ⟨_, Lib.hid rfl⟩
          rw [HMv.out] at c2
          have hx0 : (0 : Int) ≤ (x : Int) := by omega
          have hx1 : (x : Int) < (k : Int) := by omega
          have HSn := Lib.hid (hS4.out.put (marksL_del HOk.out.1 hxk HX.out))
          clear hnx hS4 hrl
          go_wp2
          go_roundw
          case rel => exact ⟨r + 1, by go_num, by omega, HSn⟩
          case measure => simp [intOf]; omega
        · have hS5 := hS4.out
          rw [List.drop_eq_nil_of_le (by rw [← HZ.out, HNn.out]; omega)] at hS5
          have HS5 := Lib.hid hS5
          have c0 := hS5.box.cell 0
          have c1 := hS5.box.cell 1
          have c2 := hS5.box.frozen 0
          have c3 := hS5.box.frozen 1
          simp only [List.getElem?_toArray, List.getElem?_cons_succ, List.getElem?_cons_zero] at c0 c1
          have hCb := HCb.out
          have HEnd : Hid (CrAt ((w4.setCell ⟨Cb, 0, none⟩ (.slice na nn nc)).setCell ⟨Cb, 1, none⟩ (.slice sa ln sc)) B Cb k M (.slice na nn nc) (.slice sa ln sc) R ∧ Below B w ((w4.setCell ⟨Cb, 0, none⟩ (.slice na nn nc)).setCell ⟨Cb, 1, none⟩ (.slice sa ln sc))) := Lib.hid (by
            have g1 := grown_self w4 ⟨Cb, 0, none⟩ (.slice na nn nc)
            have g2 := grown_self (w4.setCell ⟨Cb, 0, none⟩ (.slice na nn nc)) ⟨Cb, 1, none⟩ (.slice sa ln sc)
            have b1 := hS5.box.set 0 (.slice na nn nc)
            have s1 := World.ownsRow.kept hS5.sta g1 (.inr (own_whole hS5.sta hS5.box (by decide)).symm)
            have n1 := World.ownsRow.kept hS5.nxt g1 (.inr (own_whole hS5.nxt hS5.box (by decide)).symm)
            have m1 := hS5.mar.kept g1 (.inr (own_whole hS5.mar hS5.box (by decide)).symm)
            refine ⟨⟨b1.set 1 _, World.ownsRow.kept n1 g2 (.inr (own_whole n1 b1 (by decide)).symm), ⟨_, World.ownsRow.kept s1 g2 (.inr (own_whole s1 b1 (by decide)).symm)⟩, ?_, m1.kept g2 (.inr (own_whole m1 b1 (by decide)).symm), hCb⟩, (hS5.below.setCell (p := ⟨Cb, 0, none⟩) hCb _).setCell (p := ⟨Cb, 1, none⟩) hCb _⟩
            rcases hS5.far with e | e
            · rw [e]; cases (Value.slice sa ln sc).ownBlock <;> simp
            · exact .inr fun q => e q.symm)
          clear hS4 hS5
          go_wp2
          go_end0
          exact ⟨rfl, .slice na nn nc, .slice sa ln sc, by rw [HR.out]; exact HEnd.out⟩
end Go.Proofs.YtgnbkepdbdgkdaaGreatDoor
