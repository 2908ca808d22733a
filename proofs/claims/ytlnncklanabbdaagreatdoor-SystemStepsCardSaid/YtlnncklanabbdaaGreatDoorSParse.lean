/- system.Parse. -/
import Derived.Test.YtlnncklanabbdaaGreatDoorAcc
import Derived.Test.YtlnncklanabbdaaGreatDoorPText
namespace Go.Proofs.YtlnncklanabbdaaGreatDoor
open Go.RowKit Pl

theorem parseS_large {l : List UInt8} (h : 60000 < l.length) : parseS l = (noSys, 2) := if_pos h
/-- the lines behind the first one -/
theorem parseS_lines {s : ByteArray} (h : ¬ 60000 < s.data.toList.length) : ∃ ls : List (List UInt8), (spB 10 (mk (cut1 s.data.toList))).drop 1 = ls.map mk ∧ (spB 10 (mk (cut1 s.data.toList))).length = ls.length + 1 ∧
    parseS s.data.toList = match headO (at_ (spB 10 (mk (cut1 s.data.toList))) 0).data.toList with
      | none => (noSys, 11)
      | some acts => match rowsO acts 0 ls with
        | none => (noSys, 11)
        | some ss => if sysB ⟨acts, ss⟩ = true then (⟨acts, ss⟩, 0) else (noSys, 20) := by
  unfold parseS spB
  rw [if_neg h, mk_data]
  cases e : sp 10 (cut1 s.data.toList) with
  | nil => exact absurd e (sp_ne _ _)
  | cons l0 ls =>
    refine ⟨ls, rfl, by simp, ?_⟩
    have e1 : (at_ ((l0 :: ls).map mk) 0).data.toList = l0 := by
      show (mk l0).data.toList = l0
      exact mk_data l0
    rw [e1]
    rfl
/-- rows one by one -/
theorem rowsO_bad {acts : List ByteArray} : ∀ (ls : List (List UInt8)) (i k : Nat), k < ls.length → rowO acts (i + k) (ls.getD k []) = none → rowsO acts i ls = none
  | [], i, k, h, _ => by simp at h
  | l :: ls, i, 0, _, h => by
    unfold rowsO
    have : rowO acts i l = none := by simpa using h
    rw [this]
  | l :: ls, i, k + 1, hk, h => by
    have ih := rowsO_bad ls (i + 1) k (by simpa using hk) (by rw [Nat.add_right_comm, Nat.add_assoc]; simpa using h)
    unfold rowsO
    rw [ih]
    split <;> rfl
theorem rowsO_good {acts : List ByteArray} : ∀ (ls : List (List UInt8)) (i : Nat) (ss : List (List Edg)), ss.length = ls.length → (∀ k, k < ls.length → rowO acts (i + k) (ls.getD k []) = some (stAt ss k)) → rowsO acts i ls = some ss
  | [], i, ss, h, _ => by
    have : ss = [] := List.length_eq_zero_iff.1 (by simpa using h)
    subst this; rfl
  | l :: ls, i, [], h, _ => by simp at h
  | l :: ls, i, es :: ss, h, hg => by
    have h0 := hg 0 (by simp)
    have ih := rowsO_good ls (i + 1) ss (by simpa using h) (fun k hk => by
      have := hg (k + 1) (by simpa using hk)
      rw [Nat.add_right_comm, Nat.add_assoc]
      simpa [stAt, List.getD] using this)
    unfold rowsO
    have h1 : rowO acts i l = some es := by simpa [stAt, List.getD] using h0
    rw [h1, ih]
    rfl

set_option maxRecDepth 100000 in
set_option maxHeartbeats 8000000 in
theorem SParse_any (s : ByteArray) (hs : s.size ≤ 9223372036854775807) (w : World) (E : Env w) :
    Calls Tryz.prog 23 #[.string s] w fun e w' => ∃ a n c b k d, e = .returned (.tuple #[.agg #[.slice a n c, .slice b k d], .int .i64 (parseS s.data.toList).2]) ∧ SysArg w' a n c b k d (parseS s.data.toList).1 ∧ Below w.heap.size w w' := by
  have HE := Lib.hid E
  clear E
  have hb1 := (Below.refl w.heap.size w).alloc (Nat.le_refl _) (.cells #[.slice none 0 0, .slice none 0 0] 25)
  have hres := Whole.new w 25 #[.slice none 0 0, .slice none 0 0]
  have HPT := Lib.hid (PText_any ⟨#[115, 121, 115, 116, 101, 109]⟩ s hs _ (HE.out.below hb1))
  have HK := Lib.hid (parseS_K s.data.toList)
  have HB1 := Lib.hid hb1
  have HRes := Lib.hid hres
  clear hb1 hres
  go_enter Tryz.func23, Tryz.ntmps23
  go_wp2_with fail
  refine HPT.out.mono ?_
  rintro e w2 ⟨hb2, hcase⟩
  have hz2 : w.heap.size < w2.heap.size := by have := hb2.size; simp at this; omega
  have hres2 := HRes.out.below hb2 HRes.out.lt
  have r0 := hres2.cell 0
  have r1 := hres2.cell 1
  have f0 := hres2.frozen 0
  have f1 := hres2.frozen 1
  have HR2 := Lib.hid hres2
  simp only [List.getElem?_toArray, List.getElem?_cons_succ, List.getElem?_cons_zero] at r0 r1
  have HBw := Lib.hid (HB1.out.trans (hb2.mono HB1.out.size))
  clear hb2 hres2
  rcases hcase with ⟨cd, hne, ht, rfl⟩ | ⟨acts, ss, a, c, vs, ht, rfl, hAc, hbl, hRw, hst, hsl, hact⟩
  · have HP : Hid (parseS s.data.toList = (noSys, cd)) := Lib.hid (by
      rw [HK.out, show textK bSystem edgesO s.data.toList = ([], [], cd) from ht]
      exact if_neg hne)
    have hq : ((cd : Int) != 0) = true := by rw [bne_iff_ne]; exact hne
    have g0 := (HR2.out.set 0 (.slice none 0 0)).cell 0
    have g1 := ((HR2.out.set 0 (.slice none 0 0)).set 1 (.slice none 0 0)).cell 1
    simp only [List.setIfInBounds_toArray, List.set_cons_zero, List.set_cons_succ, List.getElem?_toArray, List.getElem?_cons_succ, List.getElem?_cons_zero] at g0 g1
    have HBe := Lib.hid ((HBw.out.setCell (p := ⟨w.heap.size, 0, none⟩) (Nat.le_refl _) (.slice none 0 0)).setCell (p := ⟨w.heap.size, 1, none⟩) (Nat.le_refl _) (.slice none 0 0))
    clear ht hne
    go_wp2
    exact bodyPost_ret (v := .tuple #[.agg #[.slice none 0 0, .slice none 0 0], .int .i64 cd]) (by simp [results, Tryz.results23, go_sem, g0, g1]) rfl ⟨none, 0, 0, none, 0, 0, by rw [HP.out], by rw [HP.out]; exact sys_nil _, HBe.out⟩
  · obtain ⟨bb, cc, rfl, hd, hnil, hrows⟩ := hRw.arg (fun i hi => Nat.le_trans (hst i hi) (by decide))
    have HST : Hid (∀ i, i < ss.length → (stAt ss i).length ≤ 140737488355328) := Lib.hid fun i hi => Nat.le_trans (hst i hi) (by decide)
    have hbo : Below w2.heap.size w2 (w2.alloc (.cells #[.slice a acts.length c, .slice bb ss.length cc] 25)) := (Below.refl _ w2).alloc (Nat.le_refl _) _
    have hbox := Whole.new w2 25 #[.slice a acts.length c, .slice bb ss.length cc]
    have hac8 := ((actsB_iff acts).1 hact).1
    have hAg : SysArg (w2.alloc (.cells #[.slice a acts.length c, .slice bb ss.length cc] 25)) a acts.length c bb ss.length cc ⟨acts, ss⟩ := ⟨hAc.below hbo, by omega, hnil, rfl, hd, by omega, hrows.below hbo⟩
    have HKo : Hid (parseS s.data.toList = if sysB ⟨acts, ss⟩ = true then (⟨acts, ss⟩, 0) else (noSys, 20)) := Lib.hid (by
      rw [HK.out, show textK bSystem edgesO s.data.toList = (acts, ss, 0) from ht]
      exact if_pos rfl)
    obtain ⟨e0, e1, e2, hErr⟩ := (HE.out.below (HBw.out.trans (hbo.mono HBw.out.size))).errs
    have HCk := Lib.hid (SCheck_any hErr hAg)
    have HAc := Lib.hid hAc
    have HRw := Lib.hid hRw
    have HBo := Lib.hid hbo
    have HBox := Lib.hid hbox
    have HBL : Hid (∀ ad, a = some ad → ad.block ≠ w.heap.size) := Lib.hid fun ad e => by have := hbl ad e; simp at this; omega
    clear hd hnil hrows hst hbo hbox hAg hErr hAc hRw ht hbl hact
    go_wp2_with fail
    refine HCk.out.mono ?_
    rintro e wC ⟨rfl, hbC⟩
    have hzC : w2.heap.size < wC.heap.size := by have := hbC.size; simp at this; omega
    have hb2C := HBo.out.trans (hbC.mono HBo.out.size)
    have hrC := HR2.out.below hb2C HR2.out.lt
    have hbT := HBw.out.trans (hb2C.mono HBw.out.size)
    have hbx := HBox.out.below hbC HBox.out.lt
    have k0 := hbx.cell 0
    have k1 := hbx.cell 1
    have HArg := Lib.hid (HRw.out.below hb2C)
    have HStr := Lib.hid (HAc.out.below hb2C)
    have q0 := hrC.cell 0
    have q1 := hrC.cell 1
    have q2 := hrC.frozen 0
    have q3 := hrC.frozen 1
    have q4 := hrC.lt
    have HrC := Lib.hid hrC
    simp only [List.getElem?_toArray, List.getElem?_cons_succ, List.getElem?_cons_zero] at k0 k1 q0 q1
    clear hbC hb2C hbx
    by_cases hck : sysB ⟨acts, ss⟩ = true
    · have HP : Hid (parseS s.data.toList = (⟨acts, ss⟩, 0)) := Lib.hid (by rw [HKo.out]; exact if_pos hck)
      rw [chk_yes hck]
      have g0 := (hrC.set 0 (.slice a acts.length c)).cell 0
      have g1 := ((hrC.set 0 (.slice a acts.length c)).set 1 (.slice bb ss.length cc)).cell 1
      simp only [List.setIfInBounds_toArray, List.set_cons_zero, List.set_cons_succ, List.getElem?_toArray, List.getElem?_cons_succ, List.getElem?_cons_zero] at g0 g1
      have HBe := Lib.hid ((hbT.setCell (p := ⟨w.heap.size, 0, none⟩) (Nat.le_refl _) (.slice a acts.length c)).setCell (p := ⟨w.heap.size, 1, none⟩) (Nat.le_refl _) (.slice bb ss.length cc))
      have HFin : Hid (SysArg ((wC.setCell ⟨w.heap.size, 0, none⟩ (.slice a acts.length c)).setCell ⟨w.heap.size, 1, none⟩ (.slice bb ss.length cc)) a acts.length c bb ss.length cc ⟨acts, ss⟩) := Lib.hid (by
        obtain ⟨b', d', e, hd, hnil, hrows⟩ := (rows_stored (u := .slice a acts.length c) (v := .slice bb ss.length cc) HArg.out hrC).arg HST.out
        cases e
        exact ⟨strs_stored HStr.out HBL.out, by omega, hnil, rfl, hd, by omega, hrows⟩)
      clear hrC hbT hck
      go_wp2
      exact bodyPost_ret (v := .tuple #[.agg #[.slice a acts.length c, .slice bb ss.length cc], .int .i64 0]) (by simp [results, Tryz.results23, go_sem, g0, g1]) rfl ⟨a, acts.length, c, bb, ss.length, cc, by rw [HP.out], by rw [HP.out]; exact HFin.out, HBe.out⟩
    · have HP : Hid (parseS s.data.toList = (noSys, 20)) := Lib.hid (by rw [HKo.out]; exact if_neg hck)
      rw [chk_no (by simpa using hck)]
      have g0 := (hrC.set 0 (.slice none 0 0)).cell 0
      have g1 := ((hrC.set 0 (.slice none 0 0)).set 1 (.slice none 0 0)).cell 1
      simp only [List.setIfInBounds_toArray, List.set_cons_zero, List.set_cons_succ, List.getElem?_toArray, List.getElem?_cons_succ, List.getElem?_cons_zero] at g0 g1
      have HBe := Lib.hid ((hbT.setCell (p := ⟨w.heap.size, 0, none⟩) (Nat.le_refl _) (.slice none 0 0)).setCell (p := ⟨w.heap.size, 1, none⟩) (Nat.le_refl _) (.slice none 0 0))
      clear hrC hbT hck
      go_wp2
      exact bodyPost_ret (v := .tuple #[.agg #[.slice none 0 0, .slice none 0 0], .int .i64 20]) (by simp [results, Tryz.results23, go_sem, g0, g1]) rfl ⟨none, 0, 0, none, 0, 0, by rw [HP.out], by rw [HP.out]; exact sys_nil _, HBe.out⟩
end Go.Proofs.YtlnncklanabbdaaGreatDoor
