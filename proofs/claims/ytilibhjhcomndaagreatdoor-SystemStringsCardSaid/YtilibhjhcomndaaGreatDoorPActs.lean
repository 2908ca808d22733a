/- parseActions. -/
import Derived.Test.YtilibhjhcomndaaGreatDoorSplit2
namespace Go.Proofs.YtilibhjhcomndaaGreatDoor
open Go.RowKit Pl

/-- 'words[k:]' of strings -/
theorem cut_run (a : Option Addr) (n c k : Nat) (h : k ≤ n) (w' : World) : (Instr.slice 22 (.slice a n c) (some (.int .i64 k)) none none).run Tryz.prog w' = .ok (.slice (if c = k then a else a.map fun x => x.add k) (n - k) (c - k)) w' := by
  have h1 : (0 : Int) ≤ k := by omega
  have h2 : (k : Int) ≤ n := by omega
  go_simp
theorem cut_from {w : World} {a : Option Addr} {n c : Nat} {ss : List ByteArray} (A : StrArg w a n c ss) (k : Nat) (h : k ≤ n) :
    ∃ a', (∀ w', (Instr.slice 22 (.slice a n c) (some (.int .i64 k)) none none).run Tryz.prog w' = .ok (.slice a' (n - k) (c - k)) w') ∧ StrArg w a' (n - k) (c - k) (ss.drop k) ∧ ∀ ad, a' = some ad → ∃ ad0, a = some ad0 ∧ ad.block = ad0.block := by
  refine ⟨_, cut_run a n c k h, ⟨?_, by rw [List.length_drop, A.len], by have := A.cap; omega, by have := A.big; omega, fun j hj => ?_, fun j hj => ?_⟩, ?_⟩
  · intro e
    by_cases hc : c = k
    · omega
    · rw [if_neg hc] at e
      cases a with
      | none => have := A.nil rfl; omega
      | some x => cases e
  · have e : at_ (ss.drop k) j = at_ ss (k + j) := by simp [at_, List.getD]
    rw [e]
    exact A.sz _ (by omega)
  · rw [List.length_drop] at hj
    obtain ⟨b, off, rfl, hcell⟩ := A.cells (k + j) (by omega)
    have e : (ss.drop k).getD j ByteArray.empty = ss.getD (k + j) ByteArray.empty := by simp [List.getD]
    rw [e, if_neg (by have := A.cap; have := A.len; omega)]
    exact ⟨b, off + k, by simp [add_plainly], by rw [Nat.add_assoc]; exact hcell⟩
  · intro ad e
    by_cases hc : c = k
    · rw [if_pos hc] at e; exact ⟨ad, e, rfl⟩
    · rw [if_neg hc] at e
      cases a with
      | none => cases e
      | some x =>
        rw [Option.map_some, Option.some.injEq] at e
        refine ⟨x, rfl, ?_⟩
        rw [← e]
        unfold Addr.add
        split <;> rfl
theorem headO_eq (s : ByteArray) : headO s.data.toList = if at_ (spB 32 s) 0 = mk bSystem ∧ actsB ((spB 32 s).drop 1) = true then some ((spB 32 s).drop 1) else none := by
  unfold headO spB
  cases e : sp 32 s.data.toList with
  | nil => exact absurd e (sp_ne _ _)
  | cons h r =>
    have e1 : at_ ((h :: r).map mk) 0 = mk h := rfl
    have e2 : ((h :: r).map mk).drop 1 = r.map mk := rfl
    rw [e1, e2]
    have e3 : (mk h = mk bSystem) ↔ h = bSystem := ⟨fun q => by have := congrArg (fun x : ByteArray => x.data.toList) q; simpa [mk] using this, fun q => by rw [q]⟩
    simp only [e3]
theorem sys_eq (x : ByteArray) : (x.toList == [115, 121, 115, 116, 101, 109]) = decide (x = mk bSystem) := by
  rw [Bool.eq_iff_iff, beq_iff_eq, decide_eq_true_iff, ByteArray.toList_eq]
  constructor
  · intro h
    rw [← mk_of x, h]; rfl
  · rintro rfl
    rfl

set_option maxRecDepth 100000 in
set_option maxHeartbeats 2000000 in
theorem parseActions_any (s : ByteArray) (hs : s.size ≤ 1000000) (w : World) (E : Env w) :
    Calls Tryz.prog 63 #[.string s] w fun e w' => Below w.heap.size w w' ∧
      ((headO s.data.toList = none ∧ e = .returned (.tuple #[.slice none 0 0, .bool false])) ∨
        ∃ acts a c, headO s.data.toList = some acts ∧ e = .returned (.tuple #[.slice a acts.length c, .bool true]) ∧ StrArg w' a acts.length c acts ∧ ∀ ad, a = some ad → w.heap.size ≤ ad.block) := by
  have HE := Lib.hid E
  clear E
  have HP := Lib.hid (headO_eq s)
  have HC := Lib.hid (clone_any s hs w)
  have hN1 := spB_pos 32 s
  have hN2 := spB_count 32 s
  obtain ⟨ws, HWS⟩ : ∃ ws, Hid (spB 32 s = ws) := ⟨_, Lib.hid rfl⟩
  rw [HWS.out] at HP hN1 hN2
  have HSz : Hid (∀ x ∈ ws, x.size ≤ 9223372036854775807) := Lib.hid (by rw [← HWS.out]; exact fun x hx => Nat.le_trans (spB_size hx) (by omega))
  go_enter Tryz.func63, Tryz.ntmps63
  go_wp2_with fail
  refine HC.out.mono ?_
  rintro e w1 ⟨rfl, hb1⟩
  have HE1 := Lib.hid (HE.out.below hb1)
  have HSp := split_any 32 s hs w1 HE1.out
  rw [HWS.out] at HSp
  have HSp := Lib.hid HSp
  have HB1 := Lib.hid hb1
  clear hb1
  go_wp2_with fail
  refine HSp.out.mono ?_
  rintro e w' ⟨rfl, rfl⟩
  have hA := strs_new w1 ws (by omega) HSz.out
  have hb2 : Below w1.heap.size w1 (w1.alloc (.cells (ws.map Value.string).toArray 9)) := (Below.refl _ w1).alloc (Nat.le_refl _) _
  obtain ⟨a', hcut, hA', hbl⟩ := cut_from hA 1 hN1
  have HBL : Hid (∀ ad, a' = some ad → w.heap.size ≤ ad.block) := Lib.hid fun ad e => by
    obtain ⟨ad0, h1, h2⟩ := hbl ad e
    cases h1
    rw [h2]
    exact HB1.out.size
  clear hbl
  simp only [Int.natCast_one] at hcut
  obtain ⟨e0, e1, e2, hEr⟩ := (HE1.out.below hb2).errs
  have HCk := Lib.hid (Check_any hEr hA')
  obtain ⟨x, HX⟩ : ∃ x, Hid (at_ ws 0 = x) := ⟨_, Lib.hid rfl⟩
  have c0 : (w1.alloc (.cells (ws.map Value.string).toArray 9)).cell? ⟨w1.heap.size, 0, none⟩ = some (.string x) := by
    obtain ⟨b, off, e, hc⟩ := hA.cells 0 hN1
    cases e
    rw [← HX.out]; exact hc
  rw [HX.out] at HP
  obtain ⟨wd, hwd⟩ : ∃ z, z = ws.drop 1 := ⟨_, rfl⟩
  have HWd := Lib.hid hwd
  have hl : wd.length = ws.length - 1 := by rw [HWd.out, List.length_drop]
  have HLn := Lib.hid hl
  rw [← HWd.out] at HP HCk hA'
  have HA2 := Lib.hid hA'
  clear hA hA' hwd hl
  have HBT := Lib.hid (HB1.out.trans (hb2.mono HB1.out.size))
  clear hb2 hEr
  by_cases hx : x = mk bSystem
  · have hq : (x.toList == [115, 121, 115, 116, 101, 109]) = true := by rw [sys_eq]; exact decide_eq_true hx
    cases ha : actsB wd
    · have HN : Hid (headO s.data.toList = none) := Lib.hid (by rw [HP.out, ha, if_neg (by simp)])
      rw [ha] at HCk
      clear hx ha
      go_wp2_with fail
      refine HCk.out.mono ?_
      rintro e w' ⟨rfl, rfl⟩
      go_wp2
      go_ret2
      exact ⟨HBT.out, .inl ⟨HN.out, rfl⟩⟩
    · have HN : Hid (headO s.data.toList = some wd) := Lib.hid (by rw [HP.out, ha, if_pos ⟨hx, rfl⟩])
      rw [ha] at HCk
      clear hx ha
      go_wp2_with fail
      refine HCk.out.mono ?_
      rintro e w' ⟨rfl, rfl⟩
      go_wp2
      go_ret2
      exact ⟨HBT.out, .inr ⟨wd, a', _, HN.out, by rw [HLn.out]; rfl, by rw [HLn.out]; exact HA2.out, HBL.out⟩⟩
  · have hq : (x.toList == [115, 121, 115, 116, 101, 109]) = false := by rw [sys_eq]; exact decide_eq_false hx
    have HN : Hid (headO s.data.toList = none) := Lib.hid (by rw [HP.out, if_neg (fun h => hx h.1)])
    clear hx
    go_wp2
    go_ret2
    exact ⟨HBT.out, .inl ⟨HN.out, rfl⟩⟩
end Go.Proofs.YtilibhjhcomndaaGreatDoor
