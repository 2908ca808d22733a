/- The reference's Actions. -/
import Derived.Test.YtlnncklanabbdaaGreatDoorRLines
namespace Go.Proofs.YtlnncklanabbdaaGreatDoor
open Go.RowKit Pl

set_option maxRecDepth 100000 in
set_option maxHeartbeats 4000000 in
theorem RActions_any (s : ByteArray) (hs : s.size ≤ 1000000) (w : World) :
    Calls Tryz.prog 56 #[.string s, .string (mk bSystem)] w fun e w' => Below w.heap.size w w' ∧
      ((headO s.data.toList = none ∧ ∃ a n c, e = .returned (.tuple #[.slice a n c, .bool false])) ∨
        ∃ acts a c, headO s.data.toList = some acts ∧ e = .returned (.tuple #[.slice a acts.length c, .bool true]) ∧ StrArg w' a acts.length c acts ∧ ∀ ad, a = some ad → w.heap.size ≤ ad.block) := by
  have HP := Lib.hid (headO_eq s)
  have hr := RSplit_any s hs 32 w
  have h10 : ((32 : UInt8).toNat : Int) = 32 := rfl
  rw [h10] at hr
  have hN1 := spB_pos 32 s
  have hN2 := spB_count 32 s
  obtain ⟨ws, HWS⟩ : ∃ ws, Hid (spB 32 s = ws) := ⟨_, Lib.hid rfl⟩
  rw [HWS.out] at HP hN1 hN2 hr
  have HR := Lib.hid hr
  obtain ⟨N, HN⟩ : ∃ N, Hid (ws.length = N) := ⟨_, Lib.hid rfl⟩
  rw [HN.out] at HR hN1 hN2
  clear hr h10
  go_enter Tryz.func56, Tryz.ntmps56
  go_wp2_with fail
  refine HR.out.mono ?_
  rintro e w1 ⟨a, c, rfl, hA, hbl, hb⟩
  obtain ⟨x, HX⟩ : ∃ x, Hid (at_ ws 0 = x) := ⟨_, Lib.hid rfl⟩
  obtain ⟨b, off, rfl, c0⟩ := hA.cells 0 (by have := HN.out; omega)
  change w1.cell? _ = some (.string (at_ ws 0)) at c0
  rw [HX.out] at c0 HP
  simp only [Nat.add_zero] at c0
  obtain ⟨a', hcut, hA', hbl'⟩ := cut_from hA 1 hN1
  simp only [Int.natCast_one] at hcut
  have HBL : Hid (∀ ad, a' = some ad → w.heap.size ≤ ad.block) := Lib.hid fun ad e => by
    obtain ⟨ad0, h1, h2⟩ := hbl' ad e
    rw [h2]
    exact hbl ad0 h1
  obtain ⟨wd, HWd⟩ : ∃ z, Hid (ws.drop 1 = z) := ⟨_, Lib.hid rfl⟩
  have HLn : Hid (wd.length = N - 1) := Lib.hid (by rw [← HWd.out, List.length_drop, HN.out])
  rw [HWd.out] at HP hA'
  have HA' := Lib.hid hA'
  have HB := Lib.hid hb
  have his := fun (W : World) (h : Below w1.heap.size w1 W) => Is_arg (hA'.below h)
  have hN0 : (0 : Int) < N := by omega
  have hN3 : (1 : Int) ≤ N := by omega
  clear hA hbl hbl' hA' hb
  by_cases hx : x = mk bSystem
  · have hq : (x.toList == (mk bSystem).toList) = true := by rw [bytes_eq]; exact decide_eq_true hx
    cases hac : actsB wd
    · have HF : Hid (headO s.data.toList = none) := Lib.hid (by rw [HP.out, if_neg]; rintro ⟨_, h⟩; rw [hac] at h; cases h)
      rw [hac] at his
      have HIs := Lib.hid his
      clear hx hac his
      go_wp2
      go_region_held3 (fun w' => w'.cell? ⟨b, off, none⟩ = some (.string x)) ((first | assumption | go_keep))
        (first | (go_at_call 44; refine (HIs.out _ (by first | exact (Below.refl _ _).drew | exact Below.refl _ _)).mono ?_; rintro e w' ⟨rfl, rfl⟩))
      go_wp2
      go_ret2
      exact ⟨HB.out.drew, .inl ⟨HF.out, _, _, _, rfl⟩⟩
    · have HF : Hid (headO s.data.toList = some wd) := Lib.hid (by rw [HP.out, if_pos ⟨hx, hac⟩])
      rw [hac] at his
      have HIs := Lib.hid his
      clear hx hac his
      go_wp2
      go_region_held3 (fun w' => w'.cell? ⟨b, off, none⟩ = some (.string x)) ((first | assumption | go_keep))
        (first | (go_at_call 44; refine (HIs.out _ (by first | exact (Below.refl _ _).drew | exact Below.refl _ _)).mono ?_; rintro e w' ⟨rfl, rfl⟩))
      go_wp2
      go_ret2
      exact ⟨HB.out.drew, .inr ⟨wd, a', _, HF.out, by rw [HLn.out]; rfl, by rw [HLn.out]; exact HA'.out.below (Below.refl _ _).drew, HBL.out⟩⟩
  · have hq : (x.toList == (mk bSystem).toList) = false := by rw [bytes_eq]; exact decide_eq_false hx
    have HF : Hid (headO s.data.toList = none) := Lib.hid (by rw [HP.out, if_neg]; rintro ⟨h, _⟩; exact hx h)
    clear hx his
    go_wp2
    go_quiet (fail)
    go_wp2
    go_ret2
    exact ⟨⟨HB.out.os, HB.out.tape, HB.out.output, HB.out.size, HB.out.block⟩, .inl ⟨HF.out, _, _, _, rfl⟩⟩
end Go.Proofs.YtlnncklanabbdaaGreatDoor
